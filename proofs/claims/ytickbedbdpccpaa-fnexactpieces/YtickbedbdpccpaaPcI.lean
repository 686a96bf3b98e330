
/-
  The program's Pieces.
-/
import Derived.Test.YtickbedbdpccpaaPcS
import Derived.Test.YtickbedbdpccpaaXk2k
import Derived.Test.YtickbedbdpccpaaXkC
import Derived.Test.YtickbedbdpccpaaRg3
import Derived.Test.YtickbedbdpccpaaNbA
namespace Go.Proofs.Ytickbedbdpccpaa
open Go Go.RowKit Go.Shelf

/-- One item more: its list was made behind M, the row and the others ahead of it. -/
theorem BRow.appQ {w : World} {B : Nat} {v : Value} {its : List (List Int)} {bs : List Plc} (h : BRow w B v its bs) (x : List Int) (q : Plc) (p0 : Nat) (hp0 : RwC w p0 [.slice q.a x.length q.c] 38) (hB : B ≤ w.heap.size) (hq : Lie w x q) (M : Nat) (hBM : B ≤ M) (hM1 : ∀ i, i < its.length → 0 < (its.getD i []).length → (bs.getD i plc0).q < M) (hM2 : ∀ k, v.ownBlock = some k → k < M) (hqM : M ≤ q.q) (hl : its.length ≤ 1048576) :
    ∃ v' w', (Builtin.append_ #[28, 28] 28 #[v, .slice (some ⟨p0, 0, none⟩) 1 1]).run Try.prog w = .ok v' w' ∧ BRow w' B v' (its ++ [x]) (bs ++ [q]) ∧ (∀ k, k < w.heap.size → v.ownBlock ≠ some k → w'.heap[k]? = w.heap[k]?) ∧ Below B w w' ∧ (∀ p, p < w.heap.size → v.ownBlock ≠ some p → v'.ownBlock ≠ some p) := by
  obtain ⟨i, hi, hz, hs, hby⟩ := info_parts bInfo
  have na : Below w.heap.size w w := Below.refl _ _
  have h0 : w.ownsRow B 38 1 v its.length (blCs its bs) := h.o
  have hcell : ∀ j u, [blC x q][j]? = some u → w.cell? ((⟨p0, 0, none⟩ : Addr).add j) = some u := by
    intro j u hj
    rw [Addr.add_mid, Nat.zero_add, hp0.cell j]
    exact hj
  obtain ⟨v', w', h1, h2, h3, h4, h5⟩ := run_append_own_at (P := Try.prog) w B 28 28 38 i (.agg #[.slice none 0 0]) 1 24 bUnd hi hz hs hby rfl (by decide) v its.length (blCs its bs) h0 ⟨p0, 0, none⟩ 1 1 ([blC x q]) (by simp [blC]) hcell (fun u hu => by
    simp only [blC, List.mem_cons, List.not_mem_nil, or_false] at hu
    subst hu; rfl) (by unfold maxLen; omega) (by omega) (Nat.le_trans hB na.size)
  have keep : ∀ k, k < w.heap.size → v.ownBlock ≠ some k → w'.heap[k]? = w.heap[k]? := fun k hk hne => (h3.block k (by omega) (fun e => hne e.symm)).trans (na.block k hk)
  have ob := h.o.lt
  have A1 : ∀ j, j < its.length → (bs ++ [q]).getD j plc0 = bs.getD j plc0 := fun j hj => by
    have : j < bs.length := by rw [h.l]; exact hj
    simp [List.getD, List.getElem?_append_left this]
  have A2 : ∀ j, j < its.length → (its ++ [x]).getD j [] = its.getD j [] := fun j hj => by simp [List.getD, List.getElem?_append_left hj]
  have A3 : (bs ++ [q]).getD its.length plc0 = q := by rw [← h.l]; simp
  have A4 : (its ++ [x]).getD its.length [] = x := by simp
  have hqr : v.ownBlock ≠ some q.q := fun e => by have := hM2 _ e; omega
  have LT : ∀ p, p < w.heap.size → v.ownBlock ≠ some p → v'.ownBlock ≠ some p := fun p hp hn => by
    rcases h5 with h5 | h5
    · rw [h5]; exact hn
    · rw [h5]
      intro e
      have e := Option.some.inj e
      omega
  refine ⟨v', w', h1, ⟨?_, by simp [h.l], fun j hj => ?_, fun j hj h0' => ?_, fun j k hj hk hne hj0 hk0 => ?_⟩, keep, (Below.refl B w).grown h3 (by omega) (fun k hk => (ob k hk).1), LT⟩
  · show w'.ownsRow B 38 1 v' (its ++ [x]).length (blCs (its ++ [x]) (bs ++ [q]))
    rw [blCs_snoc its bs x q h.l, List.length_append]
    exact h2
  · by_cases hj' : j < its.length
    · rw [A1 j hj', A2 j hj']
      exact (h.b j hj').of fun h0' => keep _ (h.lt hj' h0') (h.h j hj' h0').2
    · have ej : j = its.length := by simp at hj; omega
      subst ej
      rw [A3, A4]
      exact hq.of fun h0' => keep _ (hq.o.rd.lt h0') hqr
  · by_cases hj' : j < its.length
    · rw [A2 j hj'] at h0'
      rw [A1 j hj']
      exact ⟨(h.h j hj' h0').1, LT _ (h.lt hj' h0') (h.h j hj' h0').2⟩
    · have ej : j = its.length := by simp at hj; omega
      subst ej
      rw [A4] at h0'
      rw [A3]
      exact ⟨by omega, LT _ (hq.o.rd.lt h0') hqr⟩
  · by_cases hj' : j < its.length
    · rw [A2 j hj'] at hj0
      rw [A1 j hj']
      by_cases hk' : k < its.length
      · rw [A2 k hk'] at hk0
        rw [A1 k hk']
        exact h.d j k hj' hk' hne hj0 hk0
      · have ek : k = its.length := by simp at hk; omega
        subst ek
        rw [A3]
        have := hM1 j hj' hj0
        omega
    · have ej : j = its.length := by simp at hj; omega
      subst ej
      have hk' : k < its.length := by simp at hk; omega
      rw [A2 k hk'] at hk0
      rw [A1 k hk', A3]
      have := hM1 k hk' hk0
      omega

theorem BRow.ofK {W W' : World} {row : Option Nat} {B : Nat} {v : Value} {its : List (List Int)} {bs : List Plc} (h : BRow W B v its bs) (hg : W.grownBy W' row) (hr : ∀ r, row = some r → ∃ o : Obj, W.heap[r]? = some o ∧ o.isCells = false) : BRow W' B v its bs := by
  refine ⟨⟨h.o.1, ?_⟩, h.l, fun i hi => ?_, h.h, h.d⟩
  · rcases h.o.2 with h' | ⟨g, cap, cur, rfl, hbg, hc, hnc, hcm, hcs, ht⟩
    · exact .inl h'
    · exact .inr ⟨g, cap, cur, rfl, hbg, (grownBy_keeps_cells hg hr hc rfl).trans hc, hnc, hcm, hcs, ht⟩
  · refine (h.b i hi).of fun h0 => ?_
    obtain ⟨o, e, hc⟩ := (h.b i hi).o.rd h0
    obtain ⟨ob, ho, hcell⟩ := cells_of_cell (hc 0 h0)
    exact grownBy_keeps_cells hg hr ho hcell
theorem BRow.cellsAt {W : World} {B : Nat} {v : Value} {its : List (List Int)} {bs : List Plc} (h : BRow W B v its bs) {k : Nat} {o : Obj} (hk : W.heap[k]? = some o) (ho : o.isCells = false) : v.ownBlock ≠ some k := by
  rcases h.o.2 with ⟨h', -⟩ | ⟨g, cap, cur, rfl, hbg, hc, -⟩
  · rw [h']
    simp [Value.ownBlock]
  · intro e
    have : g = k := by simpa [Value.ownBlock] using e
    subst this
    rw [hc] at hk
    obtain rfl := Option.some.inj hk
    simp [Obj.isCells] at ho
section
variable {P : Program} {ops : Array Oper} {Q : Exit → Act → World → Prop} {n l : Nat} {a0 : Act}
theorem region_appP_in {id : Nat} {w : World} (k jR jS pR pS dA : Nat) (t : TypeId) (o o2 : Oper) (F : Nat → Fact) (GS : Fact) (vr : Value) (q1 : Nat) (R : Value → World → Prop) (hm : P.follows .mixedOrders = true) (hq : ¬ LetsOut Q) (hnd : noDefer ops.toList = true) (hT : textTail .any true ops a0.tmps.size k = true) (hk : ops.toList.drop k = [o, o2]) (ho : ops[k]? = some o)
    (hop : o.op = .call { callee := .builtin .append, args := #[.tmp pR, .tmp pS], argTypes := #[t, t] }) (hty : o.type = t) (hd : o.dst = some dA) (sA : dA < a0.tmps.size)
    (hst : ∀ a W v', Based ops a0 a → a.tmps.getD dA undef = v' → R v' W → Q .normal a (W.setCell ⟨q1, 0, none⟩ v') → o2.wp P a W (fun a'' w3 => Q .normal a'' w3) Q)
    (wR : decide (jR < k) = true ∧ writes ops jR pR = true) (FR : F jR = Fact.eq vr) (wS : decide (jS < k) = true ∧ writes ops jS pS = true) (FS : F jS = GS) (steps : ∀ i, i < k → StepOk P .any ops Q F a0 w i)
    (hA : ∀ W vS, Below w.heap.size w W → GS.p vS W → ∃ v' w', (Builtin.append_ #[t, t] t #[vr, vS]).run P W = .ok v' w' ∧ R v' w')
    (fin : ∀ (vs : Nat → Value) (W : World) (v' : Value), R v' W → Q .normal (puts vs a0 ops.toList) (W.setCell ⟨q1, 0, none⟩ v')) : (Code.region id ops true).wpIn (Fence.wide.inRound l) n P Q a0 w := by
  have T := textT_of hT
  have fin' : HeadDone P ops Q F a0 w k [] := fun a W hb hw hf _ => by
    rw [hk]
    show o.wp P a W (fun a' w' => o2.wp P a' w' (fun a3 w3 => Q .normal a3 w3) Q) Q
    obtain ⟨or, hor, hdr⟩ := writes_is wR.2
    obtain ⟨os, hos, hds⟩ := writes_is wS.2
    have e1 := hf jR or pR (of_decide_eq_true wR.1) hor hdr
    rw [FR] at e1
    have e2 := hf jS os pS (of_decide_eq_true wS.1) hos hds
    rw [FS] at e2
    obtain ⟨v', w', hr, hR⟩ := hA W _ hw e2
    have e1' : a.tmps.getD pR undef = vr := e1
    refine Lib.wp_append_run W (.tmp pR) (.tmp pS) t t hop vr (a.tmps.getD pS undef) e1' rfl v' w' (by rw [hty]; exact hr) ?_
    have hb1 := Based.put hb ho v'
    have x2 : (a.put o.dst v').tmps.getD dA undef = v' := by
      rw [hd]
      exact put_at (by rw [hb.2.1]; exact sA)
    refine hst _ w' v' hb1 x2 hR ?_
    obtain ⟨vs, hvs⟩ : ∃ vs : Nat → Value, ∀ d, (a.put o.dst v').tmps.getD d undef = vs d := ⟨_, fun _ => rfl⟩
    rw [puts_tail hT rfl hb1 vs hvs]
    exact fin vs w' v' hR
  have z : ∀ j, (Array.replicate ops.size false).getD j false = false := fun j => by
    rw [Array.getD_eq_getD_getElem?, Array.getElem?_replicate]
    split <;> rfl
  have S0 : ∀ w', SepL [] (Array.replicate ops.size false) a0 w' := fun w' => ⟨fun p hp g => by simp at hp, fun p hp => by simp at hp⟩
  refine wpIn_region_any hm (any_in hq (fun i o ho c e => ?_) _ _ _ _ ?_)
  · have := List.all_eq_true.1 hnd o (by rw [← Array.getElem?_toList] at ho; exact List.mem_of_getElem? ho)
    rw [e] at this
    simp at this
  refine any_tail (w0 := w) T (Nat.le_refl _) steps [] (by simp) (by simp) fin' ops.size _ a0 _ ?_ ⟨⟨rfl, rfl, fun _ _ => rfl⟩, (Below.refl _ _).drew, ?_, ?_, by simp⟩ (S0 _) (fun j _ => z j) (by omega)
  · have : ∀ m, left (Array.replicate ops.size false) m ≤ m := by
      intro m
      induction m with
      | zero => exact Nat.le_refl _
      | succ m ih => unfold left; split <;> omega
    exact this _
  · intro i o d ho hl _
    rw [z] at hl
    simp at hl
  · intro i o ho hl
    rw [z] at hl
    simp at hl
end
/-- A list of its own; in a struct; a row of one such struct. -/
def PRb (b : Nat) (D : List Int) : Fact := ⟨fun v w => RowB w b v D, fun n h => h.up n⟩
def PBl (b : Nat) (D : List Int) : Fact := ⟨fun v w => ∃ a c, v = .agg #[.slice a D.length c] ∧ RowB w b (.slice a D.length c) D, fun n h => by
  obtain ⟨a, c, e, r⟩ := h
  exact ⟨a, c, e, r.up n⟩⟩
def PBr (b : Nat) (D : List Int) : Fact := ⟨fun v w => ∃ p a c, v = .slice (some ⟨p, 0, none⟩) 1 1 ∧ RwC w p [.slice a D.length c] 38 ∧ RowB w b (.slice a D.length c) D, fun n h => by
  obtain ⟨p, a, c, e, r, q⟩ := h
  exact ⟨p, a, c, e, r.up n, q.up n⟩⟩
/-- What holds between two rounds. -/
structure PiI (w : World) (q Z : Nat) (xs : List Int) (pre : List (PcN2k xs.length)) (W : World) : Prop where
  told : ∃ v bs its, RwC W q [v] 28 ∧ BRow W Z v its bs ∧ its.length = pre.length ∧ (pre.map (·.1) = List.range pre.length → its = pces xs pre.length)
  siz : Z ≤ W.heap.size
  bel : Below w.heap.size w W
theorem piI_own {w : World} {q Z B : Nat} {xs : List Int} (hB : w.heap.size ≤ B) : OwnFrom B (PiI w q Z xs) := by
  intro s W W' row h hg hr
  have hr' : ∀ r, row = some r → ∃ o : Obj, W.heap[r]? = some o ∧ o.isCells = false := fun r e => (hr r e).2
  obtain ⟨v, bs, its, t1, t2, t3⟩ := h.told
  refine ⟨⟨v, bs, its, (grownBy_keeps_cells hg hr' t1 rfl).trans t1, t2.ofK hg hr', t3⟩, Nat.le_trans h.siz hg.size, ?_⟩
  exact h.bel.grown hg h.bel.size (fun k e => Nat.le_trans hB (hr k e).1)
/-- What a round leaves. -/
theorem PiI.next {w W W9 : World} {q Z : Nat} {xs : List Int} {pre : List (PcN2k xs.length)} {v : Value} {bs : List Plc} {its : List (List Int)} {vS : Value} (x : PcN2k xs.length) (t1 : RwC W q [v] 28) (t2 : BRow W Z v its bs) (t3 : its.length = pre.length) (t4 : pre.map (·.1) = List.range pre.length → its = pces xs pre.length) (sz : Z ≤ W.heap.size) (be : Below w.heap.size w W) (hq : w.heap.size ≤ q) (hqZ : q + 2 < Z) (hl : its.length ≤ 1000) (b9 : Below W.heap.size W W9) (hG : (PBr W.heap.size (pce xs x.1)).p vS W9) :
    ∃ v' w4, (Builtin.append_ #[28, 28] 28 #[v, vS]).run Try.prog W9 = .ok v' w4 ∧ (∃ ra p rc, v' = .slice ra p rc) ∧ w4.cell? ⟨q, 0, none⟩ = some v ∧ w4.frozen? ⟨q, 0, none⟩ = false ∧
      (KeepsFrom Z W (w4.setCell ⟨q, 0, none⟩ v') ∧ KpB (q + 1) (q + 2) W (w4.setCell ⟨q, 0, none⟩ v') ∧ PiI w q Z xs (pre ++ [x]) (w4.setCell ⟨q, 0, none⟩ v')) := by
  obtain ⟨p0, ad, cd, rfl, hp, hR⟩ := hG
  obtain ⟨a, c, gd, ev', O1, O2, O3, O4⟩ := hR.own
  simp only [Value.slice.injEq, true_and] at ev'
  obtain ⟨rfl, rfl⟩ := ev'
  have z9 := b9.size
  have R9 := t2.of (w' := W9) (fun i hi _ => b9.block i hi)
  obtain ⟨v', w4, r1, r2, r3, r4, -⟩ := R9.appQ (pce xs x.1) ⟨ad, cd, gd⟩ p0 hp (by omega) ⟨O1, O2, O3⟩ W.heap.size (by omega) (fun i hi h0 => t2.lt hi h0) (fun i hi => (t2.o.lt i hi).2) O4 (by omega)
  have q9 : RwC w4 q [v] 28 := (r4.block q (by omega)).trans ((b9.block q (by omega)).trans t1)
  have O5 := Only.setCell w4 q 0 v'
  have s4 := r4.size
  obtain ⟨ra, rc, ev, -⟩ := r2.slice
  refine ⟨v', w4, r1, ⟨ra, _, rc, ev⟩, q9.c0, q9.free 0, ⟨by have := O5.size; omega, fun k o hk ho hc => ?_⟩, ⟨?_, ?_⟩, ⟨v', _, _, q9.set 0 v', r2.of (fun i hi hB => O5.block i (by omega)), by simp [t3], fun h => ?_⟩, by have := O5.size; omega, (nxt be b9).trans ((r4.mono (show w.heap.size ≤ Z by omega)).trans (O5.below hq))⟩
  · have lk := (Array.getElem?_eq_some_iff.1 ho).1
    exact (O5.block k (by omega)).trans ((r3 k (by omega) (t2.cellsAt ho hc)).trans ((b9.block k lk).trans ho))
  · exact (O5.block _ (by omega)).trans ((r4.block _ (by omega)).trans (b9.block _ (by omega)))
  · exact (O5.block _ (by omega)).trans ((r4.block _ (by omega)).trans (b9.block _ (by omega)))
  · have lx : (pre ++ [x]).length = pre.length + 1 := by simp
    rw [lx, List.map_append, List.range_succ] at h
    obtain ⟨h1', h2'⟩ := List.append_inj' h rfl
    have h3' : x.1 = pre.length := by simpa using h2'
    rw [lx, t4 h1', pces_snoc, h3']
end Go.Proofs.Ytickbedbdpccpaa
