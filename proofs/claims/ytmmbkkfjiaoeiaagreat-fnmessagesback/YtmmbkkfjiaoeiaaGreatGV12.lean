import Derived.Test.YtmmbkkfjiaoeiaaGreatGV3
import Derived.Test.YtmmbkkfjiaoeiaaGreatGV2
import Derived.Maps.AppendAt
import Derived.Test.YtmmbkkfjiaoeiaaGreatGV8
import Derived.Deep.Cut
import Derived.Test.YtmmbkkfjiaoeiaaGreatGV5
import Derived.Test.YtmmbkkfjiaoeiaaGreatGV11
namespace Go.Proofs.YtmmbkkfjiaoeiaaGreat
open Go Go.RowKit
structure Plc where
  a : Option Addr
  c : Nat
  q : Nat
def plc0 : Plc := ⟨none, 0, 0⟩
def blC (x : List Int) (q : Plc) : Value := .slice q.a x.length q.c
def blCs : List (List Int) → List Plc → List Value
  | x :: xs, q :: qs => blC x q :: blCs xs qs
  | _, _ => []
theorem blCs_snoc : ∀ (its : List (List Int)) (bs : List Plc) (x : List Int) (q : Plc), bs.length = its.length → blCs (its ++ [x]) (bs ++ [q]) = blCs its bs ++ [blC x q]
  | [], [], x, q, _ => rfl
  | [], _ :: _, _, _, h => by simp at h
  | _ :: _, [], _, _, h => by simp at h
  | y :: its, p :: bs, x, q, h => by
    show blC y p :: blCs (its ++ [x]) (bs ++ [q]) = (blC y p :: blCs its bs) ++ [blC x q]
    rw [blCs_snoc its bs x q (by simpa using h)]
    rfl
theorem blCs_at : ∀ (its : List (List Int)) (bs : List Plc) (i : Nat), bs.length = its.length → i < its.length → (blCs its bs)[i]? = some (.slice (bs.getD i plc0).a (its.getD i []).length (bs.getD i plc0).c)
  | [], _, i, _, hi => by simp at hi
  | _ :: _, [], _, h, _ => by simp at h
  | y :: its, p :: bs, 0, h, hi => rfl
  | y :: its, p :: bs, i + 1, h, hi => by
    show (blCs its bs)[i]? = _
    rw [blCs_at its bs i (by simpa using h) (by simpa using hi)]
    simp
structure Lie (w : World) (x : List Int) (p : Plc) : Prop where
  o : Own w p.q p.a .u8 x
  n : p.a = none → p.c = 0
  c : x.length ≤ p.c
theorem Lie.of {w w' : World} {x : List Int} {p : Plc} (h : Lie w x p) (hb : 0 < x.length → w'.heap[p.q]? = w.heap[p.q]?) : Lie w' x p := by
  refine ⟨?_, h.n, h.c⟩
  by_cases h0 : 0 < x.length
  · exact h.o.of_block (hb h0)
  · exact fun h1 => absurd h1 h0
structure BRow (w : World) (B : Nat) (v : Value) (its : List (List Int)) (bs : List Plc) : Prop where
  o : w.ownsRow B 52 1 v its.length (blCs its bs)
  l : bs.length = its.length
  b : ∀ i, i < its.length → Lie w (its.getD i []) (bs.getD i plc0)
  h : ∀ i, i < its.length → 0 < (its.getD i []).length → B ≤ (bs.getD i plc0).q ∧ v.ownBlock ≠ some (bs.getD i plc0).q
  d : ∀ i j, i < its.length → j < its.length → i ≠ j → 0 < (its.getD i []).length → 0 < (its.getD j []).length → (bs.getD i plc0).q ≠ (bs.getD j plc0).q
theorem bInfo : (Tryz.prog.info? 52).map (fun i => (i.zero, i.size, i.bytes)) = some (some (.agg #[.slice none 0 0]), 1, 24) := by kernel_rfl
theorem bUnd : Tryz.prog.underlying 24 = some (.slice 52) := Tryz.underlying24
theorem BRow.nil (w : World) (B : Nat) : BRow w B (.slice none 0 0) [] [] :=
  ⟨⟨rfl, .inl ⟨rfl, rfl⟩⟩, rfl, fun i h => absurd h (by simp), fun i h => absurd h (by simp), fun i j h => absurd h (by simp)⟩
theorem BRow.lt {w : World} {B : Nat} {v : Value} {its : List (List Int)} {bs : List Plc} (h : BRow w B v its bs) {i : Nat} (hi : i < its.length) (h0 : 0 < (its.getD i []).length) : (bs.getD i plc0).q < w.heap.size := (h.b i hi).o.rd.lt h0
theorem BRow.of {w w' : World} {B : Nat} {v : Value} {its : List (List Int)} {bs : List Plc} (h : BRow w B v its bs) (hb : ∀ k, k < w.heap.size → B ≤ k → w'.heap[k]? = w.heap[k]?) : BRow w' B v its bs := by
  refine ⟨⟨h.o.1, ?_⟩, h.l, fun i hi => ?_, h.h, h.d⟩
  · rcases h.o.2 with h' | ⟨g, cap, cur, rfl, hbg, hg, hnc, hcm, hcs, ht⟩
    · exact .inl h'
    · exact .inr ⟨g, cap, cur, rfl, hbg, by rw [hb g ((Array.getElem?_eq_some_iff.1 hg).1) hbg]; exact hg, hnc, hcm, hcs, ht⟩
  · exact (h.b i hi).of fun h0 => hb _ (h.lt hi h0) (h.h i hi h0).1
theorem BRow.app {w : World} {B : Nat} {v : Value} {its : List (List Int)} {bs : List Plc} (h : BRow w B v its bs) (x : List Int) (q : Plc) (hB : B ≤ w.heap.size) (hq : Lie w x q) (M : Nat) (hBM : B ≤ M) (hM1 : ∀ i, i < its.length → 0 < (its.getD i []).length → (bs.getD i plc0).q < M) (hM2 : ∀ k, v.ownBlock = some k → k < M) (hqM : M ≤ q.q) (hl : its.length ≤ 1048576) :
    ∃ v' w', (Builtin.append_ #[24, 24] 24 #[v, .slice (some ⟨w.heap.size, 0, none⟩) 1 1]).run Tryz.prog (w.alloc (.cells #[.slice q.a x.length q.c] 52)) = .ok v' w' ∧ BRow w' B v' (its ++ [x]) (bs ++ [q]) ∧ (∀ k, k < w.heap.size → v.ownBlock ≠ some k → w'.heap[k]? = w.heap[k]?) ∧ Below B w w' ∧ (∀ p, p < w.heap.size → v.ownBlock ≠ some p → v'.ownBlock ≠ some p) := by
  obtain ⟨i, hi, hz, hs, hby⟩ := info_parts bInfo
  have na : Below w.heap.size w (w.alloc (.cells #[.slice q.a x.length q.c] 52)) := (Below.refl _ _).alloc (Nat.le_refl _) _
  have h0 : (w.alloc (.cells #[.slice q.a x.length q.c] 52)).ownsRow B 52 1 v its.length (blCs its bs) := h.o.alloc _
  have hcell : ∀ j u, ([blC x q])[j]? = some u → (w.alloc (.cells #[.slice q.a x.length q.c] 52)).cell? ((⟨w.heap.size, 0, none⟩ : Addr).add j) = some u := by
    intro j u hj
    have e : (w.alloc (.cells #[.slice q.a x.length q.c] 52)).heap[w.heap.size]? = some (.cells #[.slice q.a x.length q.c] 52) := heap_alloc_new w _
    rw [Addr.add_mid, Nat.zero_add, cell_of_row _ _ j _ _ (0, 0) e]
    simpa [blC] using hj
  obtain ⟨v', w', h1, h2, h3, h4, h5⟩ := run_append_own_at (P := Tryz.prog) (w.alloc (.cells #[.slice q.a x.length q.c] 52)) B 24 24 52 i (.agg #[.slice none 0 0]) 1 24 bUnd hi hz hs hby rfl (by decide) v its.length (blCs its bs) h0 ⟨w.heap.size, 0, none⟩ 1 1 ([blC x q]) (by simp [blC]) hcell (fun u hu => by
    simp only [blC, List.mem_cons, List.not_mem_nil, or_false] at hu
    subst hu; rfl) (by unfold maxLen; omega) (by omega) (Nat.le_trans hB na.size)
  have z : (w.alloc (.cells #[.slice q.a x.length q.c] 52)).heap.size = w.heap.size + 1 := by simp
  have keep : ∀ k, k < w.heap.size → v.ownBlock ≠ some k → w'.heap[k]? = w.heap[k]? := fun k hk hne => (h3.block k (by omega) (fun e => hne e.symm)).trans (na.block k hk)
  have ob := h.o.lt
  have A1 : ∀ j, j < its.length → (bs ++ [q]).getD j plc0 = bs.getD j plc0 := fun j hj => by
    have : j < bs.length := by rw [h.l]; exact hj
    simp [List.getD, List.getElem?_append_left this]
  have A2 : ∀ j, j < its.length → (its ++ [x]).getD j [] = its.getD j [] := fun j hj => by simp [List.getD, List.getElem?_append_left hj]
  have A3 : (bs ++ [q]).getD its.length plc0 = q := by rw [← h.l]; simp
  have A4 : (its ++ [x]).getD its.length [] = x := by simp
  have hqr : v.ownBlock ≠ some q.q := fun e => by have := hM2 _ e; omega
  have LT : ∀ p, p < w.heap.size → v.ownBlock ≠ some p → v'.ownBlock ≠ some p := fun p hp hn => by
    rcases h5 with h5 | h5
    · rw [h5]; exact hn
    · rw [h5]
      intro e
      have e := Option.some.inj e
      omega
  refine ⟨v', w', h1, ⟨?_, by simp [h.l], fun j hj => ?_, fun j hj h0' => ?_, fun j k hj hk hne hj0 hk0 => ?_⟩, keep, ((Below.refl B w).alloc hB _).grown h3 (by omega) (fun k hk => (ob k hk).1), LT⟩
  · show w'.ownsRow B 52 1 v' (its ++ [x]).length (blCs (its ++ [x]) (bs ++ [q]))
    rw [blCs_snoc its bs x q h.l, List.length_append]
    exact h2
  · by_cases hj' : j < its.length
    · rw [A1 j hj', A2 j hj']
      exact (h.b j hj').of fun h0' => keep _ (h.lt hj' h0') (h.h j hj' h0').2
    · have ej : j = its.length := by simp at hj; omega
      subst ej
      rw [A3, A4]
      exact hq.of fun h0' => keep _ (hq.o.rd.lt h0') hqr
  · by_cases hj' : j < its.length
    · rw [A2 j hj'] at h0'
      rw [A1 j hj']
      exact ⟨(h.h j hj' h0').1, LT _ (h.lt hj' h0') (h.h j hj' h0').2⟩
    · have ej : j = its.length := by simp at hj; omega
      subst ej
      rw [A4] at h0'
      rw [A3]
      exact ⟨by omega, LT _ (hq.o.rd.lt h0') hqr⟩
  · by_cases hj' : j < its.length
    · rw [A2 j hj'] at hj0
      rw [A1 j hj']
      by_cases hk' : k < its.length
      · rw [A2 k hk'] at hk0
        rw [A1 k hk']
        exact h.d j k hj' hk' hne hj0 hk0
      · have ek : k = its.length := by simp at hk; omega
        subst ek
        rw [A3]
        have := hM1 j hj' hj0
        omega
    · have ej : j = its.length := by simp at hj; omega
      subst ej
      have hk' : k < its.length := by simp at hk; omega
      rw [A2 k hk'] at hk0
      rw [A1 k hk', A3]
      have := hM1 k hk' hk0
      omega
theorem BRow.cells {w : World} {B : Nat} {v : Value} {its : List (List Int)} {bs : List Plc} (h : BRow w B v its bs) (h0 : 0 < its.length) : ∃ g c, v = .slice (some ⟨g, 0, none⟩) its.length c ∧ B ≤ g ∧ g < w.heap.size ∧ v.ownBlock = some g ∧ (∀ i, i < its.length → w.cell? ⟨g, i, none⟩ = some (.slice (bs.getD i plc0).a (its.getD i []).length (bs.getD i plc0).c)) := by
  rcases h.o.2 with ⟨_, h'⟩ | ⟨g, cap, cur, rfl, hb, hg, hnc, hcm, hcs, ht⟩
  · omega
  · refine ⟨g, cap, rfl, hb, (Array.getElem?_eq_some_iff.1 hg).1, rfl, fun i hi => ?_⟩
    rw [cell_of_row w g _ cur _ (0, 0) hg]
    have : (cur.toList.take (its.length * 1))[i]? = (blCs its bs)[i]? := by rw [ht]
    rw [List.getElem?_take, if_pos (by omega), blCs_at its bs i h.l hi] at this
    simpa using this
theorem BRow.slice {w : World} {B : Nat} {v : Value} {its : List (List Int)} {bs : List Plc} (h : BRow w B v its bs) : ∃ a c, v = .slice a its.length c ∧ (a = none → c = 0) := by
  rcases h.o.2 with ⟨h1, h'⟩ | ⟨g, cap, cur, rfl, hb, hg, hnc, hcm, hcs, ht⟩
  · exact ⟨none, 0, by rw [h1, h'], fun _ => rfl⟩
  · exact ⟨_, cap, rfl, fun e => by cases e⟩
structure NoB (p : Nat) (v : Value) (its : List (List Int)) (bs : List Plc) : Prop where
  o : v.ownBlock ≠ some p
  b : ∀ i, i < its.length → 0 < (its.getD i []).length → (bs.getD i plc0).q ≠ p
theorem NoB.nil (p : Nat) : NoB p (.slice none 0 0) [] [] := ⟨(fun e => nomatch e), fun i h => absurd h (by simp)⟩
theorem NoB.app {p : Nat} {v v' : Value} {its : List (List Int)} {bs : List Plc} (h : NoB p v its bs) (l : bs.length = its.length) (ho : v'.ownBlock ≠ some p) (x : List Int) (q : Plc) (hq : q.q ≠ p) : NoB p v' (its ++ [x]) (bs ++ [q]) := by
  refine ⟨ho, fun j hj h0 => ?_⟩
  by_cases hj' : j < its.length
  · have A1 : (bs ++ [q]).getD j plc0 = bs.getD j plc0 := by
      have : j < bs.length := by rw [l]; exact hj'
      simp [List.getD, List.getElem?_append_left this]
    have A2 : (its ++ [x]).getD j [] = its.getD j [] := by simp [List.getD, List.getElem?_append_left hj']
    rw [A2] at h0
    rw [A1]
    exact h.b j hj' h0
  · have ej : j = its.length := by simp at hj; omega
    subst ej
    rw [← l]
    simpa using hq
theorem BRow.base {w : World} {B C : Nat} {v : Value} {its : List (List Int)} {bs : List Plc} (R : BRow w B v its bs) (hC : C ≤ B) : BRow w C v its bs :=
  ⟨⟨R.o.1, by
      rcases R.o.2 with h' | ⟨g, cap, cur, e1, hbg, h3⟩
      · exact .inl h'
      · exact .inr ⟨g, cap, cur, e1, by omega, h3⟩⟩, R.l, R.b, fun i hi h0 => ⟨by have := (R.h i hi h0).1; omega, (R.h i hi h0).2⟩, R.d⟩
end Go.Proofs.YtmmbkkfjiaoeiaaGreat
namespace Go.Proofs.YtmmbkkfjiaoeiaaGreat
open Go Go.RowKit
def NBt (b : Nat) (t : TypeId) (zs : List Value) : Fact := ⟨fun v w => ∃ q, v = .pointer (some ⟨q, 0, none⟩) ∧ b ≤ q ∧ RwC w q zs t, fun n h => by
  obtain ⟨q, e, l, r⟩ := h
  exact ⟨q, e, l, r.up n⟩⟩
def putAt : List Value → Nat → List Value → List Value
  | zs, _, [] => zs
  | zs, o, v :: vs => putAt (zs.set o v) (o + 1) vs
theorem putAt_get : ∀ (vs zs : List Value) (o i : Nat), o + vs.length ≤ zs.length → (putAt zs o vs)[i]? = if o ≤ i ∧ i < o + vs.length then vs[i - o]? else zs[i]?
  | [], zs, o, i, _ => by
    rw [if_neg (by simp only [List.length_nil]; omega)]
    rfl
  | v :: vs, zs, o, i, h => by
    simp only [List.length_cons] at h ⊢
    rw [putAt, putAt_get vs (zs.set o v) (o + 1) i (by rw [List.length_set]; omega)]
    by_cases e : o = i
    · subst e
      rw [if_neg (by omega), if_pos (by omega), List.getElem?_set_self (by omega), Nat.sub_self]
      rfl
    · by_cases h2 : o + 1 ≤ i ∧ i < o + 1 + vs.length
      · rw [if_pos h2, if_pos (by omega), show i - o = (i - (o + 1)) + 1 by omega]
        rfl
      · rw [if_neg h2, if_neg (by omega), List.getElem?_set_ne e]
theorem putAt_all {zs cs : List Value} (h : cs.length = zs.length) : putAt zs 0 cs = cs := by
  apply List.ext_getElem?
  intro i
  rw [putAt_get cs zs 0 i (by omega)]
  by_cases hi : i < cs.length
  · rw [if_pos (by omega)]
    rfl
  · rw [if_neg (by omega), List.getElem?_eq_none (by omega), List.getElem?_eq_none (by omega)]
theorem RwC.puts {t : TypeId} {q : Nat} : ∀ (vs zs : List Value) (w : World) (o : Nat), RwC w q zs t → RwC (w.setCells q o vs) q (putAt zs o vs) t
  | [], _, _, _, h => h
  | v :: vs, zs, w, o, h => RwC.puts vs (zs.set o v) (w.setCell ⟨q, o, none⟩ v) (o + 1) (h.set o v)
theorem RwC.put {w : World} {q : Nat} {zs cs : List Value} {t : TypeId} (h : RwC w q zs t) (hl : cs.length = zs.length) : RwC (w.setCells q 0 cs) q cs t := by
  have := RwC.puts cs zs w 0 h
  rwa [putAt_all hl] at this
section
variable {P : Program} {ops : Array Oper} {Q : Exit → Act → World → Prop}
theorem region_newT {a0 : Act} {id : Nat} {draw : Bool} {w : World} (k jA jV pA pV : Nat) (o : Oper) (F : Nat → Fact) (t : TypeId) (zs : List Value) (G : Fact) (hm : P.follows .mixedOrders = true) (hT : textOk .any ops a0.tmps.size k = true) (hk : ops[k]? = some o) (hd : o.dst = none)
    (hop : o.op = .store t (.tmp pA) (.tmp pV)) (hi : (P.info? t).map (·.size) = some zs.length) (wA : writes ops jA pA = true) (FA : F jA = NBt w.heap.size t zs) (wV : writes ops jV pV = true) (FV : F jV = G)
    (hG : ∀ v W, G.p v W → ∃ cs : List Value, v = .agg cs.toArray ∧ cs.length = zs.length ∧ cs.toArray.all (·.oneCell') = true) (steps : ∀ i, i < k → StepOk P .any ops Q F a0 w i)
    (fin : ∀ (vs : Nat → Value) (W W' : World) (q : Nat) (cs : List Value), vs pA = .pointer (some ⟨q, 0, none⟩) → w.heap.size ≤ q → Below w.heap.size w W → RwC W q zs t → G.p (.agg cs.toArray) W → Only q W W' → RwC W' q cs t → Below w.heap.size w W' → Q .normal (puts vs a0 ops.toList) W') : (Code.region id ops draw).wp P Q a0 w := by
  refine region_store k o F hm hT hk hd steps fun a W hb hw hF => ?_
  have e1 := hF jA pA wA
  have e2 := hF jV pV wV
  rw [FA] at e1
  rw [FV] at e2
  obtain ⟨q, e1, hB, hq⟩ := e1
  obtain ⟨cs, ev, hl, h1⟩ := hG _ _ e2
  have TH : W.there q 0 cs.length := by rw [hl]; exact hq.thereG
  refine wp_store_mid _ (.tmp pA) (.tmp pV) hop q 0 cs.toArray e1 ev (by simpa using TH) (by rw [hi]; simp [hl]) h1 ?_
  obtain ⟨vs, hvs⟩ : ∃ vs : Nat → Value, ∀ d, a.tmps.getD d undef = vs d := ⟨_, fun _ => rfl⟩
  rw [hd]
  show Q .normal a _
  rw [puts_of hT rfl hb vs hvs]
  have OQ := only_setG W q cs 0
  have e2' : G.p (.agg cs.toArray) W := by rw [← ev]; exact e2
  exact fin vs W _ q cs ((hvs pA).symm.trans e1) hB hw hq e2' OQ (RwC.put hq hl) (hw.trans (OQ.below hB))
end
end Go.Proofs.YtmmbkkfjiaoeiaaGreat
namespace Go.Proofs.YtmmbkkfjiaoeiaaGreat
open Go Go.RowKit
def dgI (v : Value) (n : Int) : Prop := v = .int .i64 n
def dgS (v : Value) (l : List UInt8) : Prop := v = .string ⟨⟨l⟩⟩ ∧ l.length ≤ 300
def dgO (v : Value) (b : Bool) : Prop := v = .bool b
def dgB (W : World) (B : Nat) (v : Value) (Y : List Int) : Prop := RowB W B v Y ∧ Y.length ≤ 10000 ∧ Byt Y
def dgT (W : World) (B : Nat) (v : Value) (ls : List (List UInt8)) : Prop := RowT W B v ls ∧ ls.length ≤ 20 ∧ ∀ l ∈ ls, l.length ≤ 100
def dgU (W : World) (B : Nat) (v : Value) (ls : List (List UInt8)) : Prop := ∃ (a : Option Addr) (c g : Nat), v = .slice a ls.length c ∧ RdT W g a ls ∧ ls.length ≤ c ∧ ls.length ≤ 30 ∧ (∀ l ∈ ls, l.length ≤ 100) ∧ (0 < ls.length → B ≤ g ∧ ∃ cs mk, W.heap[g]? = some (.cells cs 9 mk))
def dgE (W : World) (B : Nat) (v : Value) (its : List (List Int)) (n : Nat) : Prop := ∃ (bs : List Plc), BRow W B v its bs ∧ its.length ≤ n ∧ ∀ i, i < its.length → Byt (its.getD i []) ∧ (its.getD i []).length ≤ 10000 ∧ (0 < (its.getD i []).length → ∃ cs mk, W.heap[(bs.getD i plc0).q]? = some (.cells cs 5 mk))
def dgC (W : World) (B : Nat) (v : Value) (its : List (List Int)) : Prop := dgE W B v its 20
def dgD (W : World) (B : Nat) (v : Value) (its : List (List Int)) : Prop := ∃ (a : Option Addr) (c g : Nat) (ps : List Plb), v = .slice a its.length c ∧ RdL W g a its ps ∧ its.length ≤ 30 ∧ (∀ i, i < its.length → Byt (its.getD i []) ∧ (its.getD i []).length ≤ 10000 ∧ ((ps.getD i plb0).a = none → (ps.getD i plb0).c = 0) ∧ (0 < (its.getD i []).length → B ≤ (ps.getD i plb0).q ∧ ∃ cs mk, W.heap[(ps.getD i plb0).q]? = some (.cells cs 5 mk))) ∧ (0 < its.length → B ≤ g ∧ ∃ cs mk, W.heap[g]? = some (.cells cs 52 mk))
def dgK (B : Nat) (X : TypeId) (W W' : World) : Prop := ∀ g cs t mk, B ≤ g → W.heap[g]? = some (.cells cs t mk) → t ≠ X → W'.heap[g]? = W.heap[g]?
theorem heap_lt {W : World} {g : Nat} {x : Obj} (h : W.heap[g]? = some x) : g < W.heap.size := (Array.getElem?_eq_some_iff.1 h).1
theorem dgK.but {B s : Nat} {X : TypeId} {W W' : World} (h : But s W W') (hs : s < B) : dgK B X W W' := fun g _ _ _ hB hg _ => h.block g (heap_lt hg) (by omega)
theorem dgK.up {B : Nat} {X : TypeId} {W W' : World} (h : Below W.heap.size W W') : dgK B X W W' := fun g _ _ _ _ hg _ => h.block g (heap_lt hg)
theorem dgK.onl {B q : Nat} {X : TypeId} {zs : List Value} {W W' : World} (h : Only q W W') (hq : RwC W q zs X) : dgK B X W W' := fun g cs t mk _ hg ht => h.block g (fun e => by
  subst e
  have e2 : W.heap[g]? = some (.cells zs.toArray X (0, 0)) := hq
  rw [hg] at e2
  exact ht (by injection e2 with e2; injection e2))
theorem dgK.grown {B : Nat} {e : TypeId} {sz n : Nat} {v : Value} {xs : List Value} {W W' : World} (h : W.ownsRow B e sz v n xs) (hg : W.grownBy W' v.ownBlock) : dgK B e W W' := fun g cs t mk _ hc ht => hg.block g (heap_lt hc) (fun eo => by
  rcases h.2 with ⟨rfl, _⟩ | ⟨q, cap, cur, rfl, hb, hq, _⟩
  · simp [Value.ownBlock] at eo
  · simp only [Value.ownBlock, Option.some.injEq] at eo
    subst eo
    rw [hc] at hq
    exact ht (by injection hq with hq; injection hq))
theorem dgK.trans {B : Nat} {X : TypeId} {a b c : World} (h : dgK B X a b) (k : dgK B X b c) : dgK B X a c := fun g cs t mk hB hg ht => by
  have e := h g cs t mk hB hg ht
  exact (k g cs t mk hB (e.trans hg) ht).trans e
theorem own_dg {W W' : World} {B : Nat} {X e : TypeId} {sz : Nat} {v : Value} {m : Nat} {xs : List Value} (h : W.ownsRow B e sz v m xs) (ht : e ≠ X) (k : dgK B X W W') : W'.ownsRow B e sz v m xs := by
  refine ⟨h.1, ?_⟩
  rcases h.2 with h' | ⟨g, cap, cur, rfl, hb, hg, hnc, hcm, hcs, hk⟩
  · exact .inl h'
  · exact .inr ⟨g, cap, cur, rfl, hb, (k g _ _ _ hb hg ht).trans hg, hnc, hcm, hcs, hk⟩
theorem own_base {W : World} {B B' : Nat} {e : TypeId} {sz : Nat} {v : Value} {m : Nat} {xs : List Value} (h : W.ownsRow B e sz v m xs) (hB : B' ≤ B) : W.ownsRow B' e sz v m xs := by
  refine ⟨h.1, ?_⟩
  rcases h.2 with h' | ⟨g, cap, cur, rfl, hb, hk⟩
  · exact .inl h'
  · exact .inr ⟨g, cap, cur, rfl, by omega, hk⟩
theorem dgB.kp {W W' : World} {B : Nat} {X : TypeId} {v : Value} {Y : List Int} (h : dgB W B v Y) (k : dgK B X W W') (n : (5 : TypeId) ≠ X) : dgB W' B v Y := by
  obtain ⟨R, l⟩ := h
  exact ⟨own_dg R n k, l⟩
theorem dgT.kp {W W' : World} {B : Nat} {X : TypeId} {v : Value} {ls : List (List UInt8)} (h : dgT W B v ls) (k : dgK B X W W') (n : (9 : TypeId) ≠ X) : dgT W' B v ls := by
  obtain ⟨R, l⟩ := h
  exact ⟨own_dg R n k, l⟩
theorem dgU.kp {W W' : World} {B : Nat} {X : TypeId} {v : Value} {ls : List (List UInt8)} (h : dgU W B v ls) (k : dgK B X W W') (n : (9 : TypeId) ≠ X) : dgU W' B v ls := by
  obtain ⟨a, c, g, rfl, R, l1, l2, l3, hg⟩ := h
  by_cases h0 : 0 < ls.length
  · obtain ⟨hB, cs, mk, e⟩ := hg h0
    have eb := k g cs _ mk hB e n
    exact ⟨a, c, g, rfl, R.of_block eb, l1, l2, l3, fun _ => ⟨hB, cs, mk, eb.trans e⟩⟩
  · exact ⟨a, c, g, rfl, fun h1 => absurd h1 h0, l1, l2, l3, fun h1 => absurd h1 h0⟩
theorem dgE.kp {W W' : World} {B : Nat} {X : TypeId} {v : Value} {its : List (List Int)} {m : Nat} (h : dgE W B v its m) (k : dgK B X W W') (n : (5 : TypeId) ≠ X ∧ (52 : TypeId) ≠ X) : dgE W' B v its m := by
  obtain ⟨bs, R, l, b⟩ := h
  have same : ∀ i, i < its.length → 0 < (its.getD i []).length → W'.heap[(bs.getD i plc0).q]? = W.heap[(bs.getD i plc0).q]? := fun i hi h0 => by
    obtain ⟨cs, mk, e⟩ := (b i hi).2.2 h0
    exact k _ cs _ mk (R.h i hi h0).1 e n.1
  exact ⟨bs, ⟨own_dg R.o n.2 k, R.l, fun i hi => (R.b i hi).of (same i hi), R.h, R.d⟩, l, fun i hi => ⟨(b i hi).1, (b i hi).2.1, fun h0 => by
    obtain ⟨cs, mk, e⟩ := (b i hi).2.2 h0
    exact ⟨cs, mk, (same i hi h0).trans e⟩⟩⟩
theorem dgC.kp {W W' : World} {B : Nat} {X : TypeId} {v : Value} {its : List (List Int)} (h : dgC W B v its) (k : dgK B X W W') (n : (5 : TypeId) ≠ X ∧ (52 : TypeId) ≠ X) : dgC W' B v its := dgE.kp h k n
theorem dgD.kp {W W' : World} {B : Nat} {X : TypeId} {v : Value} {its : List (List Int)} (h : dgD W B v its) (k : dgK B X W W') (n : (5 : TypeId) ≠ X ∧ (52 : TypeId) ≠ X) : dgD W' B v its := by
  obtain ⟨a, c, g, ps, rfl, R, l2, l3, hg⟩ := h
  have same : ∀ i, i < its.length → 0 < (its.getD i []).length → W'.heap[(ps.getD i plb0).q]? = W.heap[(ps.getD i plb0).q]? := fun i hi h0 => by
    obtain ⟨hB, cs, mk, e⟩ := (l3 i hi).2.2.2 h0
    exact k _ cs _ mk hB e n.1
  refine ⟨a, c, g, ps, rfl, ⟨fun h0 => ?_, fun i hi => ?_⟩, l2, fun i hi => ⟨(l3 i hi).1, (l3 i hi).2.1, (l3 i hi).2.2.1, fun h0 => ?_⟩, fun h0 => ?_⟩
  · obtain ⟨hB, cs, mk, e⟩ := hg h0
    have eb := k g cs _ mk hB e n.2
    obtain ⟨off, ha, hc⟩ := R.r h0
    exact ⟨off, ha, fun i hi => (World.cell?_of_block (a := ⟨g, off + i, none⟩) eb).trans (hc i hi)⟩
  · by_cases h0 : 0 < (its.getD i []).length
    · exact (R.b i hi).of_block (same i hi h0)
    · exact fun h1 => absurd h1 h0
  · obtain ⟨hB, cs, mk, e⟩ := (l3 i hi).2.2.2 h0
    exact ⟨hB, cs, mk, (same i hi h0).trans e⟩
  · obtain ⟨hB, cs, mk, e⟩ := hg h0
    exact ⟨hB, cs, mk, (k g cs _ mk hB e n.2).trans e⟩
theorem RowT.u {W : World} {B : Nat} {v : Value} {ls : List (List UInt8)} (R : RowT W B v ls) (l : ls.length ≤ 30) (b : ∀ l ∈ ls, l.length ≤ 100) : dgU W B v ls := by
  rcases R.2 with ⟨rfl, h'⟩ | ⟨g, cap, cur, rfl, hb, hg, hnc, hcm, hcs, hk⟩
  · have e : ls = [] := List.length_eq_zero_iff.1 h'
    subst e
    exact ⟨none, 0, 0, rfl, RdT.nil _ _ _, by simp, by simp, b, fun h0 => absurd h0 (by simp)⟩
  · refine ⟨some ⟨g, 0, none⟩, cap, g, rfl, fun h0 => ?_, hnc, by omega, b, fun _ => ⟨hb, cur, _, hg⟩⟩
    obtain ⟨g', c', e, _, _, hc, _⟩ := RowT.cells R h0
    simp only [Value.slice.injEq, Option.some.injEq, Addr.mk.injEq, and_true] at e
    obtain ⟨rfl, _⟩ := e
    exact ⟨0, rfl, fun i hi => by rw [Nat.zero_add]; exact hc i hi⟩
theorem dgT.rd {W : World} {B : Nat} {v : Value} {ls : List (List UInt8)} (h : dgT W B v ls) : dgU W B v ls := by
  obtain ⟨R, l, b⟩ := h
  exact R.u (by omega) b
def plB (p : Plc) : Plb := ⟨p.a, p.c, p.q⟩
theorem plB_at (bs : List Plc) (i : Nat) (hi : i < bs.length) : (bs.map plB).getD i plb0 = plB (bs.getD i plc0) := by simp [List.getD, hi]
theorem dgE.rd {W : World} {B : Nat} {v : Value} {its : List (List Int)} {m : Nat} (h : dgE W B v its m) (hm : m ≤ 30) : dgD W B v its := by
  obtain ⟨bs, R, l, b⟩ := h
  have hA : ∀ i, i < its.length → (bs.map plB).getD i plb0 = plB (bs.getD i plc0) := fun i hi => plB_at bs i (by rw [R.l]; exact hi)
  rcases R.o.2 with ⟨rfl, h'⟩ | ⟨g, cap, cur, rfl, hb, hg, hnc, hcm, hcs, hk⟩
  · have e : its = [] := List.length_eq_zero_iff.1 h'
    subst e
    exact ⟨none, 0, 0, [], rfl, ⟨fun h0 => absurd h0 (by simp), fun i hi => absurd hi (by simp)⟩, by simp, fun i hi => absurd hi (by simp), fun h0 => absurd h0 (by simp)⟩
  · refine ⟨some ⟨g, 0, none⟩, cap, g, bs.map plB, rfl, ⟨fun h0 => ⟨0, rfl, fun i hi => ?_⟩, fun i hi => ?_⟩, by omega, fun i hi => ⟨(b i hi).1, (b i hi).2.1, ?_, ?_⟩, fun _ => ⟨hb, cur, _, hg⟩⟩
    · rw [Nat.zero_add, cell_of_row W g i cur 52 (0, 0) hg]
      have h2 : (cur.toList.take (its.length * 1))[i]? = (blCs its bs)[i]? := by rw [hk]
      rw [List.getElem?_take, if_pos (by omega), blCs_at its bs i R.l hi] at h2
      rw [hA i hi]
      simpa [plB] using h2
    · rw [hA i hi]; exact (R.b i hi).o.rd
    · rw [hA i hi]; exact (R.b i hi).n
    · rw [hA i hi]; exact fun h0 => ⟨(R.h i hi h0).1, (b i hi).2.2 h0⟩
theorem dgC.rd {W : World} {B : Nat} {v : Value} {its : List (List Int)} (h : dgC W B v its) : dgD W B v its := dgE.rd h (by decide)
structure MsO (W : World) (B : Nat) (m : Msg) (v0 v1 v2 v3 v4 v5 v6 v7 v8 v9 v10 v11 v12 : Value) : Prop where
  i0 : dgI v0 m.k
  i1 : dgI v1 m.v
  b2 : dgB W B v2 m.r
  b3 : dgB W B v3 m.s
  s4 : dgS v4 m.ho
  t5 : dgT W B v5 m.pr
  b6 : dgB W B v6 m.ti
  i7 : dgI v7 m.ag
  i8 : dgI v8 m.ea
  b9 : dgB W B v9 m.bi
  o10 : dgO v10 m.rs
  c11 : dgC W B v11 m.ce
  b12 : dgB W B v12 m.pf
structure MsF (W : World) (B : Nat) (m : Msg) (v0 v1 v2 v3 v4 v5 v6 v7 v8 v9 v10 v11 v12 : Value) : Prop where
  i0 : dgI v0 m.k
  i1 : dgI v1 m.v
  b2 : dgB W B v2 m.r
  b3 : dgB W B v3 m.s
  s4 : dgS v4 m.ho
  t5 : dgU W B v5 m.pr
  b6 : dgB W B v6 m.ti
  i7 : dgI v7 m.ag
  i8 : dgI v8 m.ea
  b9 : dgB W B v9 m.bi
  o10 : dgO v10 m.rs
  c11 : dgD W B v11 m.ce
  b12 : dgB W B v12 m.pf
theorem MsO.kp {W W' : World} {B : Nat} {X : TypeId} {m : Msg} {v0 v1 v2 v3 v4 v5 v6 v7 v8 v9 v10 v11 v12 : Value} (h : MsO W B m v0 v1 v2 v3 v4 v5 v6 v7 v8 v9 v10 v11 v12) (k : dgK B X W W') (n : (5 : TypeId) ≠ X ∧ (9 : TypeId) ≠ X ∧ (52 : TypeId) ≠ X) : MsO W' B m v0 v1 v2 v3 v4 v5 v6 v7 v8 v9 v10 v11 v12 := ⟨h.i0, h.i1, h.b2.kp k n.1, h.b3.kp k n.1, h.s4, h.t5.kp k n.2.1, h.b6.kp k n.1, h.i7, h.i8, h.b9.kp k n.1, h.o10, h.c11.kp k ⟨n.1, n.2.2⟩, h.b12.kp k n.1⟩
theorem MsF.kp {W W' : World} {B : Nat} {X : TypeId} {m : Msg} {v0 v1 v2 v3 v4 v5 v6 v7 v8 v9 v10 v11 v12 : Value} (h : MsF W B m v0 v1 v2 v3 v4 v5 v6 v7 v8 v9 v10 v11 v12) (k : dgK B X W W') (n : (5 : TypeId) ≠ X ∧ (9 : TypeId) ≠ X ∧ (52 : TypeId) ≠ X) : MsF W' B m v0 v1 v2 v3 v4 v5 v6 v7 v8 v9 v10 v11 v12 := ⟨h.i0, h.i1, h.b2.kp k n.1, h.b3.kp k n.1, h.s4, h.t5.kp k n.2.1, h.b6.kp k n.1, h.i7, h.i8, h.b9.kp k n.1, h.o10, h.c11.kp k ⟨n.1, n.2.2⟩, h.b12.kp k n.1⟩
theorem MsO.rd {W : World} {B : Nat} {m : Msg} {v0 v1 v2 v3 v4 v5 v6 v7 v8 v9 v10 v11 v12 : Value} (h : MsO W B m v0 v1 v2 v3 v4 v5 v6 v7 v8 v9 v10 v11 v12) : MsF W B m v0 v1 v2 v3 v4 v5 v6 v7 v8 v9 v10 v11 v12 := ⟨h.i0, h.i1, h.b2, h.b3, h.s4, h.t5.rd, h.b6, h.i7, h.i8, h.b9, h.o10, h.c11.rd, h.b12⟩
theorem neM : (5 : TypeId) ≠ 26 ∧ (9 : TypeId) ≠ 26 ∧ (52 : TypeId) ≠ 26 := by decide
theorem dgB.form {W : World} {B : Nat} {v : Value} {Y : List Int} (h : dgB W B v Y) : ∃ a l c, v = .slice a l c := by
  obtain ⟨R, _⟩ := h
  rcases R.2 with ⟨rfl, _⟩ | ⟨g, cap, cur, rfl, _⟩
  · exact ⟨_, _, _, rfl⟩
  · exact ⟨_, _, _, rfl⟩
theorem MsF.forms {W : World} {B : Nat} {m : Msg} {v0 v1 v2 v3 v4 v5 v6 v7 v8 v9 v10 v11 v12 : Value} (h : MsF W B m v0 v1 v2 v3 v4 v5 v6 v7 v8 v9 v10 v11 v12) : ∃ (n0 n1 : Int) (a2 : Option Addr) (l2 c2 : Nat) (a3 : Option Addr) (l3 c3 : Nat) (h4 : List UInt8) (a5 : Option Addr) (l5 c5 : Nat) (a6 : Option Addr) (l6 c6 : Nat) (n7 n8 : Int) (a9 : Option Addr) (l9 c9 : Nat) (b10 : Bool) (a11 : Option Addr) (l11 c11 : Nat) (a12 : Option Addr) (l12 c12 : Nat), v0 = .int .i64 n0 ∧ v1 = .int .i64 n1 ∧ v2 = .slice a2 l2 c2 ∧ v3 = .slice a3 l3 c3 ∧ v4 = .string ⟨⟨h4⟩⟩ ∧ v5 = .slice a5 l5 c5 ∧ v6 = .slice a6 l6 c6 ∧ v7 = .int .i64 n7 ∧ v8 = .int .i64 n8 ∧ v9 = .slice a9 l9 c9 ∧ v10 = .bool b10 ∧ v11 = .slice a11 l11 c11 ∧ v12 = .slice a12 l12 c12 := by
  have e0 : v0 = _ := h.i0
  have e1 : v1 = _ := h.i1
  have e7 : v7 = _ := h.i7
  have e8 : v8 = _ := h.i8
  have e10 : v10 = _ := h.o10
  have e4 : v4 = _ := h.s4.1
  obtain ⟨a2, l2, c2, rfl⟩ := h.b2.form
  obtain ⟨a3, l3, c3, rfl⟩ := h.b3.form
  obtain ⟨a5, c5, _, e5, _⟩ := h.t5
  obtain ⟨a6, l6, c6, rfl⟩ := h.b6.form
  obtain ⟨a9, l9, c9, rfl⟩ := h.b9.form
  obtain ⟨a11, c11, _, _, e11, _⟩ := h.c11
  obtain ⟨a12, l12, c12, rfl⟩ := h.b12.form
  exact ⟨_, _, _, _, _, _, _, _, _, _, _, _, _, _, _, _, _, _, _, _, _, _, _, _, _, _, _, e0, e1, rfl, rfl, e4, e5, rfl, e7, e8, rfl, e10, e11, rfl⟩
theorem MsF.one {W : World} {B : Nat} {m : Msg} {v0 v1 v2 v3 v4 v5 v6 v7 v8 v9 v10 v11 v12 : Value} (h : MsF W B m v0 v1 v2 v3 v4 v5 v6 v7 v8 v9 v10 v11 v12) : (#[v0, v1, v2, v3, v4, v5, v6, v7, v8, v9, v10, v11, v12] : Array Value).all (·.oneCell') = true := by
  obtain ⟨n0, n1, a2, l2, c2, a3, l3, c3, h4, a5, l5, c5, a6, l6, c6, n7, n8, a9, l9, c9, b10, a11, l11, c11, a12, l12, c12, rfl, rfl, rfl, rfl, rfl, rfl, rfl, rfl, rfl, rfl, rfl, rfl, rfl⟩ := h.forms
  simp [Value.oneCell']
theorem MsF.msg {W : World} {B : Nat} {m : Msg} {v0 v1 v2 v3 v4 v5 v6 v7 v8 v9 v10 v11 v12 : Value} (h : MsF W B m v0 v1 v2 v3 v4 v5 v6 v7 v8 v9 v10 v11 v12) : ∃ (p : MQ), #[v0, v1, v2, v3, v4, v5, v6, v7, v8, v9, v10, v11, v12] = mgV p m ∧ HasM W p m ∧ IsM m ∧ HasZ p m := by
  obtain ⟨k, v, X2, X3, l4, X5, X6, n7, n8, X9, b, X11, X12⟩ := m
  obtain ⟨e0, e1, ⟨R2, l2, y2⟩, ⟨R3, l3, y3⟩, ⟨e4, m4⟩, ⟨a5, c5, g5, rfl, r5, k5, j5, m5, _⟩, ⟨R6, l6, y6⟩, e7, e8, ⟨R9, l9, y9⟩, e10, ⟨a11, c11, g11, ps, rfl, r11, j11, m11, _⟩, ⟨R12, l12, y12⟩⟩ := h
  have e0 : v0 = .int .i64 k := e0
  have e1 : v1 = .int .i64 v := e1
  have e4 : v4 = .string ⟨⟨l4⟩⟩ := e4
  have e7 : v7 = .int .i64 n7 := e7
  have e8 : v8 = .int .i64 n8 := e8
  have e10 : v10 = .bool b := e10
  subst e0 e1 e4 e7 e8 e10
  dsimp only at l2 l3 l6 l9 l12 m4 j5 j11 m5 m11 k5
  obtain ⟨a2, c2, g2, rfl, o2, z2, _⟩ := R2.own
  obtain ⟨a3, c3, g3, rfl, o3, z3, _⟩ := R3.own
  obtain ⟨a6, c6, g6, rfl, o6, z6, _⟩ := R6.own
  obtain ⟨a9, c9, g9, rfl, o9, z9, _⟩ := R9.own
  obtain ⟨a12, c12, g12, rfl, o12, z12, _⟩ := R12.own
  refine ⟨⟨a2, c2, g2, a3, c3, g3, a5, c5, g5, a6, c6, g6, a9, c9, g9, a11, c11, g11, a12, c12, g12, ps⟩, rfl, ⟨o2.rd, o3.rd, r5, o6.rd, o9.rd, r11, o12.rd, k5⟩, ⟨y2, y3, y6, y9, y12, fun i hi => (m11 i hi).1, ?_, ?_, ?_, ?_, ?_, ?_, ?_, fun i hi => ?_, ?_, fun l hl => ?_⟩, ⟨z2, z3, z6, z9, z12, fun i hi => (m11 i hi).2.2.1⟩⟩
  · show X2.length ≤ _; omega
  · show X3.length ≤ _; omega
  · show X5.length ≤ _; omega
  · show X6.length ≤ _; omega
  · show X9.length ≤ _; omega
  · show X11.length ≤ _; omega
  · show X12.length ≤ _; omega
  · have := (m11 i hi).2.1
    show (X11.getD i []).length ≤ _
    omega
  · show l4.length ≤ _; omega
  · have := m5 l hl
    omega
theorem dgB.nil (W : World) (B : Nat) : dgB W B (.slice none 0 0) [] := ⟨⟨rfl, .inl ⟨rfl, rfl⟩⟩, by simp, fun i => by simp⟩
theorem dgT.nil (W : World) (B : Nat) : dgT W B (.slice none 0 0) [] := ⟨⟨rfl, .inl ⟨rfl, rfl⟩⟩, by simp, fun l hl => absurd hl (by simp)⟩
theorem dgC.nil (W : World) (B : Nat) : dgC W B (.slice none 0 0) [] := ⟨[], BRow.nil W B, by simp, fun i hi => absurd hi (by simp)⟩
theorem dgS.nil : dgS (.string ⟨#[]⟩) [] := ⟨rfl, by simp⟩
theorem dgB.row {W : World} {B B' : Nat} {v : Value} {ys : List Int} (h : RowB W B v ys) (l : ys.length ≤ 10000) (b : Byt ys) (hB : B' ≤ B) : dgB W B' v ys := ⟨own_base h hB, l, b⟩
theorem RwC.all13 {w : World} {q : Nat} {t : TypeId} {u0 u1 u2 u3 u4 u5 u6 u7 u8 u9 u10 u11 u12 v0 v1 v2 v3 v4 v5 v6 v7 v8 v9 v10 v11 v12 : Value} (h : RwC w q [u0, u1, u2, u3, u4, u5, u6, u7, u8, u9, u10, u11, u12] t) : RwC (w.setCells q 0 [v0, v1, v2, v3, v4, v5, v6, v7, v8, v9, v10, v11, v12]) q [v0, v1, v2, v3, v4, v5, v6, v7, v8, v9, v10, v11, v12] t := RwC.puts [v0, v1, v2, v3, v4, v5, v6, v7, v8, v9, v10, v11, v12] [u0, u1, u2, u3, u4, u5, u6, u7, u8, u9, u10, u11, u12] w 0 h
structure Dq (w W : World) (s g : Nat) (a : Option Addr) (c : Nat) (xs : List Int) (B : Nat) (t : Int) : Prop where
  d : Drm W s g a c xs t
  sB : s < B
  gB : 0 < xs.length → g < B
  wB : B ≤ w.heap.size
  os : W.os = w.os
  tape : W.tape = w.tape
  output : W.output = w.output
  size : w.heap.size ≤ W.heap.size
  low : ∀ k, k < B → k ≠ s → W.heap[k]? = w.heap[k]?
  typ : ∀ k cs t mk, k < w.heap.size → k ≠ s → w.heap[k]? = some (.cells cs t mk) → t ≠ 9 → t ≠ 52 → W.heap[k]? = w.heap[k]?
theorem Dq.start {w : World} {s g : Nat} {a : Option Addr} {c : Nat} {xs : List Int} {B : Nat} {t : Int} (d : Drm w s g a c xs t) (sB : s < B) (gB : 0 < xs.length → g < B) (wB : B ≤ w.heap.size) : Dq w w s g a c xs B t := ⟨d, sB, gB, wB, rfl, rfl, rfl, Nat.le_refl _, fun _ _ _ => rfl, fun _ _ _ _ _ _ _ _ _ => rfl⟩
theorem Drm.keep {W W' : World} {s g : Nat} {a : Option Addr} {c : Nat} {xs : List Int} {t : Int} (d : Drm W s g a c xs t) (hs : W'.heap[s]? = W.heap[s]?) (hg : 0 < xs.length → W'.heap[g]? = W.heap[g]?) : Drm W' s g a c xs t :=
  ⟨d.S.of_block hs, by
    by_cases h0 : 0 < xs.length
    · exact d.R.of_block (hg h0)
    · exact fun h1 => absurd h1 h0, d.ne, d.hb, d.hl, d.t0⟩
theorem Dq.but {w W W' : World} {s g : Nat} {a : Option Addr} {c : Nat} {xs : List Int} {B : Nat} {t u : Int} (h : Dq w W s g a c xs B t) (n : But s W W') (d : Drm W' s g a c xs u) : Dq w W' s g a c xs B u :=
  ⟨d, h.sB, h.gB, h.wB, n.os.trans h.os, n.tape.trans h.tape, n.output.trans h.output, Nat.le_trans h.size n.size, fun k hk hn => (n.block k (by have := h.wB; have := h.size; omega) hn).trans (h.low k hk hn), fun k cs t mk hk hn e h1 h2 => (n.block k (by have := h.size; omega) hn).trans (h.typ k cs t mk hk hn e h1 h2)⟩
theorem Dq.onl {w W W' : World} {s g q : Nat} {a : Option Addr} {c : Nat} {xs : List Int} {B : Nat} {t : Int} (h : Dq w W s g a c xs B t) (n : Only q W W') (hq : w.heap.size ≤ q) : Dq w W' s g a c xs B t :=
  ⟨h.d.keep (n.block s (by have := h.sB; have := h.wB; omega)) (fun h0 => n.block g (by have := h.gB h0; have := h.wB; omega)), h.sB, h.gB, h.wB, n.os.trans h.os, n.tape.trans h.tape, n.output.trans h.output, by rw [n.size]; exact h.size, fun k hk hn => (n.block k (by have := h.wB; omega)).trans (h.low k hk hn), fun k cs t mk hk hn e h1 h2 => (n.block k (by omega)).trans (h.typ k cs t mk hk hn e h1 h2)⟩
theorem Dq.up {w W W' : World} {s g : Nat} {a : Option Addr} {c : Nat} {xs : List Int} {B : Nat} {t : Int} (h : Dq w W s g a c xs B t) (n : Below W.heap.size W W') : Dq w W' s g a c xs B t := h.but (But.ofBelow n) (h.d.up n)
theorem Dq.row {w W W' : World} {s g : Nat} {a : Option Addr} {c : Nat} {xs : List Int} {B : Nat} {t : Int} {e : TypeId} {sz m : Nat} {v : Value} {ys : List Value} (h : Dq w W s g a c xs B t) (r : W.ownsRow B e sz v m ys) (he : e = 9 ∨ e = 52) (n : W.grownBy W' v.ownBlock) : Dq w W' s g a c xs B t := by
  have lo : ∀ k, k < B → W'.heap[k]? = W.heap[k]? := fun k hk => n.block k (by have := h.wB; have := h.size; omega) (fun eo => by
    rcases r.2 with ⟨rfl, _⟩ | ⟨q, cap, cur, rfl, hb, hq, _⟩
    · simp [Value.ownBlock] at eo
    · simp only [Value.ownBlock, Option.some.injEq] at eo
      omega)
  refine ⟨h.d.keep (lo s h.sB) (fun h0 => lo g (h.gB h0)), h.sB, h.gB, h.wB, n.os.trans h.os, n.tape.trans h.tape, n.output.trans h.output, Nat.le_trans h.size n.size, fun k hk hn => (lo k hk).trans (h.low k hk hn), fun k cs t mk hk hn ek h1 h2 => ?_⟩
  have e1 := h.typ k cs t mk hk hn ek h1 h2
  refine (n.block k (by have := h.size; omega) (fun eo => ?_)).trans e1
  rcases r.2 with ⟨rfl, _⟩ | ⟨q, cap, cur, rfl, hb, hq, _⟩
  · simp [Value.ownBlock] at eo
  · simp only [Value.ownBlock, Option.some.injEq] at eo
    subst eo
    have e2 := e1.trans ek
    rw [hq] at e2
    have e3 : e = t := by injection e2 with e2; injection e2
    subst e3
    rcases he with rfl | rfl
    · exact h1 rfl
    · exact h2 rfl
theorem Dq.call {w W W' : World} {s g : Nat} {a : Option Addr} {c : Nat} {xs : List Int} {B : Nat} {t u : Int} (h : Dq w W s g a c xs B t) (k : Dq W W' s g a c xs B u) : Dq w W' s g a c xs B u :=
  ⟨k.d, h.sB, h.gB, h.wB, k.os.trans h.os, k.tape.trans h.tape, k.output.trans h.output, Nat.le_trans h.size k.size, fun i hi hn => (k.low i hi hn).trans (h.low i hi hn), fun i cs t mk hi hn e h1 h2 => by
    have e1 := h.typ i cs t mk hi hn e h1 h2
    exact (k.typ i cs t mk (by have := h.size; omega) hn (e1.trans e) h1 h2).trans e1⟩
theorem Dq.out {w W : World} {s g : Nat} {a : Option Addr} {c : Nat} {xs : List Int} {t : Int} (h : Dq w W s g a c xs w.heap.size t) : But s w W := ⟨h.os, h.tape, h.output, h.size, fun k hk hn => h.low k hk hn⟩
theorem RwC.dq {w W : World} {s g : Nat} {a : Option Addr} {c : Nat} {xs : List Int} {B : Nat} {t : Int} {q : Nat} {zs : List Value} (h : RwC w q zs 26) (k : Dq w W s g a c xs B t) (hq : q ≠ s) : RwC W q zs 26 := (k.typ q _ _ _ h.lt hq h (by decide) (by decide)).trans h
end Go.Proofs.YtmmbkkfjiaoeiaaGreat
namespace Go.Proofs.YtmmbkkfjiaoeiaaGreat
open Go Go.RowKit
theorem RowT.but {w w' : World} {base s : Nat} {v : Value} {ls : List (List UInt8)} (h : RowT w base v ls) (n : But s w w') (hs : s < base) : RowT w' base v ls := own_dg (X := 26) h (by decide) (dgK.but n hs)
theorem RowT.form {W : World} {B : Nat} {v : Value} {ls : List (List UInt8)} (R : RowT W B v ls) : ∃ a c g, v = .slice a ls.length c ∧ RdT W g a ls := by
  rcases R.2 with ⟨rfl, h'⟩ | ⟨g, cap, cur, rfl, _⟩
  · have e : ls = [] := List.length_eq_zero_iff.1 h'
    subst e
    exact ⟨none, 0, 0, rfl, RdT.nil _ _ _⟩
  · refine ⟨_, cap, g, rfl, fun h0 => ?_⟩
    obtain ⟨g', c', e, _, _, hc, _⟩ := RowT.cells R h0
    simp only [Value.slice.injEq, Option.some.injEq, Addr.mk.injEq, and_true] at e
    obtain ⟨rfl, _⟩ := e
    exact ⟨0, rfl, fun i hi => by rw [Nat.zero_add]; exact hc i hi⟩
set_option maxRecDepth 100000 in
set_option maxHeartbeats 4000000 in
theorem drawProt_M {w : World} {s g : Nat} {a : Option Addr} {c : Nat} {xs : List Int} {t : Int} (d : Drm w s g a c xs t) (t1 : t ≤ 1000000) (n : Nat) (hn : n ≤ 4) :
    Calls Tryz.prog 56 #[.pointer (some ⟨s, 0, none⟩), .int .i64 (n : Int)] w fun e w' => ∃ (v : Value) (ps : List (List UInt8)) (u : Int), e = .returned v ∧ prF xs t n = (ps, u) ∧ dgT w' w.heap.size v ps ∧ u ≤ t + 6 ∧ Drm w' s g a c xs u ∧ But s w w' := by
  have ls := d.S.lt
  have lg := d.R.lt
  have HB : Hid (BlkT (w.alloc (.cells (poolP.map tx).toArray 9)) w.heap.size poolP) := heap_alloc_new w _
  have HN : Hid (Below w.heap.size w (w.alloc (.cells (poolP.map tx).toArray 9))) := (Below.refl _ _).alloc (Nat.le_refl _) _
  have HS : Hid ((w.alloc (.cells (poolP.map tx).toArray 9)).heap.size = w.heap.size + 1) := by show _ = _; simp
  simp only [poolP, List.map_cons, List.map_nil, tx] at HB HN HS
  have D0 := hide d
  have e1 : IntKind.i64.wrap ((n : Int) + 1) = (n : Int) + 1 := by rw [IntKind.wrap_i64]; omega
  have e2 : wrap64 ((n : Int) + 1) = (n : Int) + 1 := by unfold wrap64; omega
  clear d
  go_enter Tryz.func56, Tryz.ntmps56
  go_upto_region 2 with fail
  generalize w.alloc (.cells #[.string (ByteArray.mk #[104, 50]), .string (ByteArray.mk #[109, 97, 105, 108]), .string (ByteArray.mk #[0]), .string (ByteArray.mk #[97]), .string (ByteArray.mk #[112, 114, 111, 116, 111, 99, 111, 108, 32, 119, 105, 116, 104, 32, 97, 32, 108, 111, 110, 103, 32, 110, 97, 109, 101, 32, 111, 102, 32, 51, 50, 46])] 9) = w1 at *
  have zs := HS.out
  have N2 : Hid (Below w.heap.size w (w1.alloc (.cells #[] 9))) := HN.out.alloc (by omega) _
  have R2 : Hid (RowT (w1.alloc (.cells #[] 9)) (w.heap.size + 1) (.slice (some ⟨w.heap.size + 1, 0, none⟩) 0 0) []) := by
    have h : RowT (w1.alloc (.cells #[] 9)) w1.heap.size (.slice (some ⟨w1.heap.size, 0, none⟩) 0 0) [] := World.ownsRow_lit w1 #[] 0 (Nat.le_refl _) (by unfold maxLen; omega) (by simp)
    rw [zs] at h
    exact h
  have B2 : Hid (BlkT (w1.alloc (.cells #[] 9)) w.heap.size poolP) := BlkT.up HB.out ((Below.refl _ _).alloc (Nat.le_refl _) _)
  clear HB HN HS
  go_upto_region 3 with fail
  have S2 : w.heap.size + 1 ≤ (w1.alloc (.cells #[] 9)).heap.size := by simp; omega
  generalize w1.alloc (.cells #[] 9) = w2 at *
  clear zs
  have U2 : Hid (But s w w2) := But.ofBelow N2.out
  have D2 := hide (D0.out.up N2.out)
  clear N2 D0
  go_wp2_with fail
  refine (next_M D2.out (by omega) (by omega) (by omega)).mono ?_
  rintro e w3 ⟨r, rfl, er, hr, d3, b3⟩
  have EP : Hid (prF xs t n = prG xs r [] (t + 1)) := by show _ = _; unfold prF; rw [er]; rfl
  clear er
  have R3 := R2.out.but b3 (by omega)
  have B3 : BlkT w3 w.heap.size poolP := (b3.block _ B2.out.lt (by omega)).trans B2.out
  have U3 := U2.out.trans b3
  clear R2 B2 U2 D2 b3
  go_wp2
  go_loopw [6, 7] (fun v i wr => ∃ (k : Nat) (ps : List (List UInt8)) (u : Int), i = .int .i64 k ∧ RowT wr (w.heap.size + 1) v ps ∧ ps.length + k ≤ 4 ∧ (∀ l ∈ ps, l.length ≤ 100) ∧ u + k ≤ t + 6 ∧ Drm wr s g a c xs u ∧ But s w wr ∧ BlkT wr w.heap.size poolP ∧ Hid (prF xs t n = prG xs k ps u)) (fun _ i _ => (intOf i).toNat)
  case atStart => exact ⟨r, [], _, rfl, R3, by simp; omega, fun l hl => absurd hl (by simp), by omega, d3, U3, B3, EP⟩
  case round =>
    clear R3 d3 U3 B3 hr EP
    obtain ⟨k, ps, u, rfl, R, hpl, hpz, hu, D, U, B, EP⟩ := hrel
    by_cases hk : k = 0
    · subst hk
      rw [show ((0 : Nat) : Int) = 0 from rfl]
      have FIN := hide (show dgT wr w.heap.size _ ps from ⟨own_base R (by omega), by omega, hpz⟩)
      go_wp2
      go_ret
      exact ⟨_, ps, u, rfl, EP.out, FIN.out, by omega, D, U⟩
    · have tk : decide ((0 : Int) < (k : Int)) = true := decide_eq_true (by omega)
      have tk' : 0 < k := by omega
      have sk : IntKind.i64.wrap ((k : Int) - 1) = ((k - 1 : Nat) : Int) := by rw [IntKind.wrap_i64]; omega
      have sk' : wrap64 ((k : Int) - 1) = ((k - 1 : Nat) : Int) := by unfold wrap64; omega
      have ob := R.lt
      go_wp2_with fail
      refine (next_M D (by omega) (by decide) (by decide)).mono ?_
      rintro e w4 ⟨i, rfl, ei, hi, d4, b4⟩
      have EH : Hid (prF xs t n = if poolP.getD i [] ∈ ps then prG xs (k - 1) ps (u + 1) else prG xs (k - 1) (ps ++ [poolP.getD i []]) (u + 1)) := by
        have h := EP.out
        rw [show k = (k - 1) + 1 by omega, prG, ei] at h
        exact h
      clear ei EP
      have R4 := R.but b4 (by omega)
      have B4 : BlkT w4 w.heap.size poolP := (b4.block _ B.lt (by omega)).trans B
      have U4 := U.trans b4
      have c4 := B4.cell (i := i) (by show i < 5; omega)
      have pl := poolP_len i (by omega)
      generalize poolP.getD i [] = x at *
      unfold tx at c4
      have hi2 : (i : Int) < 5 := by omega
      have S4 := U4.size
      clear R B U b4 D hi
      have RH := hide R4
      have DH := hide d4
      have UH := hide U4
      have BH := hide B4
      obtain ⟨au, cu, gu, hv, rd⟩ := R4.form
      subst hv
      have rdH := hide rd
      clear R4 d4 U4 B4 rd
      go_wp2
      go_loopw [9, 10] (fun f j wq => wq = w4 ∧ ∃ (b : Bool) (m : Nat), f = .bool b ∧ j = .int .i64 m ∧ m ≤ ps.length ∧ Hid (b = decide (x ∉ ps.take m))) (fun _ j _ => ps.length - (intOf j).toNat)
      case atStart => exact ⟨rfl, true, 0, rfl, rfl, Nat.zero_le _, by show _ = _; simp⟩
      case round =>
        obtain ⟨eq4, b, m, rfl, rfl, hm, HB⟩ := hrel
        replace eq4 := eq4.symm
        subst eq4
        by_cases hlt : m < ps.length
        · obtain ⟨off, rfl, hc⟩ := rdH.out (by omega)
          have c1 := hc m hlt
          unfold tx at c1
          have HT : Hid (ps.take (m + 1) = ps.take m ++ [ps.getD m []]) := by show _ = _; rw [List.take_add_one, List.getElem?_eq_getElem hlt, List.getD_eq_getElem?_getD, List.getElem?_eq_getElem hlt]; rfl
          generalize ps.getD m [] = y at *
          have t0 : (m : Int) < (ps.length : Int) := by omega
          clear hc
          by_cases hy : y = x
          · have HF : Hid (false = decide (x ∉ ps.take (m + 1))) := by
              show _ = _
              rw [HT.out, hy]
              simp
            subst hy
            have ty : decide (y = y) = true := decide_eq_true rfl
            clear HB HT
            go_wp2
            all_goals exact ⟨⟨trivial, _, m + 1, rfl, by first | rfl | go_num, by omega, HF⟩, by simp [intOf]; omega⟩
          · have HF : Hid (b = decide (x ∉ ps.take (m + 1))) := by
              show _ = _
              rw [HT.out, HB.out]
              have : (x ∉ ps.take m) ↔ (x ∉ ps.take m ++ [y]) := by
                simp only [List.mem_append, List.mem_singleton, not_or]
                exact ⟨fun h => ⟨h, fun e => hy e.symm⟩, fun h => h.1⟩
              exact decide_eq_decide.2 this
            have ty : decide (y = x) = false := decide_eq_false hy
            clear HB HT
            go_wp2
            · rename_i hb
              exact absurd (eq_of_beq hb) hy
            all_goals exact ⟨⟨trivial, _, m + 1, rfl, by first | rfl | go_num, by omega, HF⟩, by simp [intOf]; omega⟩
        · obtain rfl : m = ps.length := by omega
          have HM := HB.out
          rw [List.take_length] at HM
          cases b
          · have EQ : Hid (prF xs t n = prG xs (k - 1) ps (u + 1)) := by
              have h := of_decide_eq_false HM.symm
              show _ = _
              rw [EH.out, if_pos (Decidable.not_not.1 h)]
            clear HB HM EH
            go_wp2
            go_roundw
            case rel => exact ⟨k - 1, ps, _, by first | rfl | go_num, RH.out, by omega, hpz, by omega, DH.out, UH.out, BH.out, EQ⟩
            case measure => simp [intOf]; omega
          · have EQ : Hid (prF xs t n = prG xs (k - 1) (ps ++ [x]) (u + 1)) := by
              have h := of_decide_eq_true HM.symm
              show _ = _
              rw [EH.out, if_neg h]
            clear HB HM EH
            obtain ⟨v', w5, h1, R5, N5⟩ := append_tx w4 23 (w.heap.size + 1) _ ps RH.out x (by omega) (by have := BH.out.lt; omega)
            have h1' : (Builtin.append_ #[23, 23] 23 #[.slice au ps.length cu, .slice (some ⟨w4.heap.size, 0, none⟩) 1 1]).run Tryz.prog (w4.alloc (.cells #[Value.string ⟨⟨x⟩⟩] 9)) = .ok v' w5 := h1
            have hz : Hid (∀ l ∈ ps ++ [x], l.length ≤ 100) := fun l hl => by
              rcases List.mem_append.1 hl with h | h
              · exact hpz l h
              · simp only [List.mem_cons, List.not_mem_nil, or_false] at h
                subst h
                omega
            have D5 := hide (DH.out.keep (N5.block s (by omega)) (fun h0 => N5.block g (by have := lg h0; omega)))
            have B5 : Hid (BlkT w5 w.heap.size poolP) := (N5.block _ (by omega)).trans BH.out
            have U5 : Hid (But s w w5) := ⟨N5.os.trans UH.out.os, N5.tape.trans UH.out.tape, N5.output.trans UH.out.output, Nat.le_trans UH.out.size N5.size, fun j hj hn => (N5.block j (by omega)).trans (UH.out.block j hj hn)⟩
            have R5H := hide R5
            have hL : Hid ((ps ++ [x]).length + (k - 1) ≤ 4) := by show _ ≤ _; simp; omega
            clear h1 R5 N5 RH DH UH BH rdH
            go_wp2_with (at_builtin; refine Lib.wpList_append_run _ rfl _ _ 23 23 rfl _ _ rfl rfl _ _ h1' ?_)
            go_roundw
            case rel => exact ⟨k - 1, ps ++ [x], _, by first | rfl | go_num, R5H.out, hL.out, hz.out, by omega, D5.out, U5.out, B5.out, EQ⟩
            case measure => simp [intOf]; omega
end Go.Proofs.YtmmbkkfjiaoeiaaGreat
