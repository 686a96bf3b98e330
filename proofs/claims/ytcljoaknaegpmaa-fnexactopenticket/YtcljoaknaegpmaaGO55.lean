import Derived.Test.YtcljoaknaegpmaaRgV
import Derived.Test.YtcljoaknaegpmaaGO53
import Derived.Deep.Cut
import Derived.Test.YtcljoaknaegpmaaGO54
import Derived.Test.YtcljoaknaegpmaaApd
import Derived.Test.YtcljoaknaegpmaaHelp

/-
  Regions that end with a struct stored into a new block, or into one that was there; steps for them. No program in sight.
-/
namespace Go.Proofs.Ytcljoaknaegpmaa
open Go Go.RowKit

/-- A new block of a struct's zero cells. -/
def NBt (b : Nat) (t : TypeId) (zs : List Value) : Fact := ⟨fun v w => ∃ q, v = .pointer (some ⟨q, 0, none⟩) ∧ b ≤ q ∧ RwC w q zs t, fun n h => by
  obtain ⟨q, e, l, r⟩ := h
  exact ⟨q, e, l, r.up n⟩⟩
theorem RowB.onlyT {w w' : World} {base q : Nat} {v : Value} {xs : List Int} {zs : List Value} {t : TypeId} (h : RowB w base v xs) (O : Only q w w') (hq : RwC w q zs t) (ht : t ≠ 5) : RowB w' base v xs := by
  refine ⟨h.1, ?_⟩
  rcases h.2 with h' | ⟨g, cap, cur, rfl, hbg, hg, hnc, hcm, hcs, hT⟩
  · exact .inl h'
  · refine .inr ⟨g, cap, cur, rfl, hbg, ?_, hnc, hcm, hcs, hT⟩
    rw [O.block g ?_]
    · exact hg
    · rintro rfl
      unfold RwC at hq
      rw [hg] at hq
      simp only [Option.some.injEq, Obj.cells.injEq] at hq
      exact ht hq.2.1.symm
def putAt : List Value → Nat → List Value → List Value
  | zs, _, [] => zs
  | zs, o, v :: vs => putAt (zs.set o v) (o + 1) vs
theorem putAt_get : ∀ (vs zs : List Value) (o i : Nat), o + vs.length ≤ zs.length → (putAt zs o vs)[i]? = if o ≤ i ∧ i < o + vs.length then vs[i - o]? else zs[i]?
  | [], zs, o, i, _ => by
    rw [if_neg (by simp only [List.length_nil]; omega)]
    rfl
  | v :: vs, zs, o, i, h => by
    simp only [List.length_cons] at h ⊢
    rw [putAt, putAt_get vs (zs.set o v) (o + 1) i (by rw [List.length_set]; omega)]
    by_cases e : o = i
    · subst e
      rw [if_neg (by omega), if_pos (by omega), List.getElem?_set_self (by omega), Nat.sub_self]
      rfl
    · by_cases h2 : o + 1 ≤ i ∧ i < o + 1 + vs.length
      · rw [if_pos h2, if_pos (by omega), show i - o = (i - (o + 1)) + 1 by omega]
        rfl
      · rw [if_neg h2, if_neg (by omega), List.getElem?_set_ne e]
theorem putAt_all {zs cs : List Value} (h : cs.length = zs.length) : putAt zs 0 cs = cs := by
  apply List.ext_getElem?
  intro i
  rw [putAt_get cs zs 0 i (by omega)]
  by_cases hi : i < cs.length
  · rw [if_pos (by omega)]
    rfl
  · rw [if_neg (by omega), List.getElem?_eq_none (by omega), List.getElem?_eq_none (by omega)]
theorem RwC.puts {t : TypeId} {q : Nat} : ∀ (vs zs : List Value) (w : World) (o : Nat), RwC w q zs t → RwC (w.setCells q o vs) q (putAt zs o vs) t
  | [], _, _, _, h => h
  | v :: vs, zs, w, o, h => RwC.puts vs (zs.set o v) (w.setCell ⟨q, o, none⟩ v) (o + 1) (h.set o v)
theorem RwC.put {w : World} {q : Nat} {zs cs : List Value} {t : TypeId} (h : RwC w q zs t) (hl : cs.length = zs.length) : RwC (w.setCells q 0 cs) q cs t := by
  have := RwC.puts cs zs w 0 h
  rwa [putAt_all hl] at this
section
variable {P : Program} {ops : Array Oper} {Q : Exit → Act → World → Prop}
theorem region_newT {a0 : Act} {id : Nat} {draw : Bool} {w : World} (k jA jV pA pV : Nat) (o : Oper) (F : Nat → Fact) (t : TypeId) (zs : List Value) (G : Fact) (hm : P.follows .mixedOrders = true) (hT : textOk .any ops a0.tmps.size k = true) (hk : ops[k]? = some o) (hd : o.dst = none)
    (hop : o.op = .store t (.tmp pA) (.tmp pV)) (hi : (P.info? t).map (·.size) = some zs.length) (wA : writes ops jA pA = true) (FA : F jA = NBt w.heap.size t zs) (wV : writes ops jV pV = true) (FV : F jV = G)
    (hG : ∀ v W, G.p v W → ∃ cs : List Value, v = .agg cs.toArray ∧ cs.length = zs.length ∧ cs.toArray.all (·.oneCell') = true) (steps : ∀ i, i < k → StepOk P .any ops Q F a0 w i)
    (fin : ∀ (vs : Nat → Value) (W W' : World) (q : Nat) (cs : List Value), vs pA = .pointer (some ⟨q, 0, none⟩) → w.heap.size ≤ q → Below w.heap.size w W → RwC W q zs t → G.p (.agg cs.toArray) W → Only q W W' → RwC W' q cs t → Below w.heap.size w W' → Q .normal (puts vs a0 ops.toList) W') : (Code.region id ops draw).wp P Q a0 w := by
  refine region_store k o F hm hT hk hd steps fun a W hb hw hF => ?_
  have e1 := hF jA pA wA
  have e2 := hF jV pV wV
  rw [FA] at e1
  rw [FV] at e2
  obtain ⟨q, e1, hB, hq⟩ := e1
  obtain ⟨cs, ev, hl, h1⟩ := hG _ _ e2
  have TH : W.there q 0 cs.length := by rw [hl]; exact hq.thereG
  refine wp_store_mid _ (.tmp pA) (.tmp pV) hop q 0 cs.toArray e1 ev (by simpa using TH) (by rw [hi]; simp [hl]) h1 ?_
  obtain ⟨vs, hvs⟩ : ∃ vs : Nat → Value, ∀ d, a.tmps.getD d undef = vs d := ⟨_, fun _ => rfl⟩
  rw [hd]
  show Q .normal a _
  rw [puts_of hT rfl hb vs hvs]
  have OQ := only_setG W q cs 0
  have e2' : G.p (.agg cs.toArray) W := by rw [← ev]; exact e2
  exact fin vs W _ q cs ((hvs pA).symm.trans e1) hB hw hq e2' OQ (RwC.put hq hl) (hw.trans (OQ.below hB))
theorem region_putT {a0 : Act} {id : Nat} {draw : Bool} {w : World} (k jV pA pV : Nat) (o : Oper) (F : Nat → Fact) (t : TypeId) (zs : List Value) (q : Nat) (G : Fact) (hm : P.follows .mixedOrders = true) (hT : textOk .any ops a0.tmps.size k = true) (hk : ops[k]? = some o) (hd : o.dst = none)
    (hop : o.op = .store t (.tmp pA) (.tmp pV)) (hi : (P.info? t).map (·.size) = some zs.length) (hA : ∀ a, Based ops a0 a → a.tmps.getD pA undef = .pointer (some ⟨q, 0, none⟩)) (hq : RwC w q zs t) (wV : writes ops jV pV = true) (FV : F jV = G)
    (hG : ∀ v W, G.p v W → ∃ cs : List Value, v = .agg cs.toArray ∧ cs.length = zs.length ∧ cs.toArray.all (·.oneCell') = true) (steps : ∀ i, i < k → StepOk P .any ops Q F a0 w i)
    (fin : ∀ (vs : Nat → Value) (W W' : World) (cs : List Value), Below w.heap.size w W → RwC W q zs t → G.p (.agg cs.toArray) W → Only q W W' → RwC W' q cs t → Q .normal (puts vs a0 ops.toList) W') : (Code.region id ops draw).wp P Q a0 w := by
  refine region_store k o F hm hT hk hd steps fun a W hb hw hF => ?_
  have e1 := hA a hb
  have e2 := hF jV pV wV
  rw [FV] at e2
  obtain ⟨cs, ev, hl, h1⟩ := hG _ _ e2
  have hq' := hq.up hw
  have TH : W.there q 0 cs.length := by rw [hl]; exact hq'.thereG
  refine wp_store_mid _ (.tmp pA) (.tmp pV) hop q 0 cs.toArray e1 ev (by simpa using TH) (by rw [hi]; simp [hl]) h1 ?_
  obtain ⟨vs, hvs⟩ : ∃ vs : Nat → Value, ∀ d, a.tmps.getD d undef = vs d := ⟨_, fun _ => rfl⟩
  rw [hd]
  show Q .normal a _
  rw [puts_of hT rfl hb vs hvs]
  have OQ := only_setG W q cs 0
  have e2' : G.p (.agg cs.toArray) W := by rw [← ev]; exact e2
  exact fin vs W _ cs hw hq' e2' OQ (RwC.put hq' hl)
end
end Go.Proofs.Ytcljoaknaegpmaa

/-
  Regions by facts with a constant text turned into bytes: its steps; regions that end with an append, or with a struct stored into a new block.
-/
namespace Go.Proofs.Ytcljoaknaegpmaa.Mk
open Go Go.RowKit

/-- A row to append to, longer than the literal. -/
def RoF (b : Nat) (xs : List Int) (hx : LN < xs.length) : Fact := ⟨fun v w => RowB w b v xs, fun n h => by
  refine ⟨h.1, ?_⟩
  rcases h.2 with h' | ⟨g, cap, cur, rfl, hbg, hg, hnc, hcm, hcs, hT⟩
  · exact .inl h'
  · refine .inr ⟨g, cap, cur, rfl, hbg, ?_, hnc, hcm, hcs, hT⟩
    have hl : g < _ := (Array.getElem?_eq_some_iff.1 hg).1
    rcases n.block g hl with e | ⟨_, cs, t, m, m', hs, e1, _⟩
    · exact e.trans hg
    · rw [hg] at e1
      injection e1 with e1
      injection e1 with e1 _ _
      rw [← e1] at hs
      omega⟩
/-- A list that may be read. -/
def DrF (xs : List Int) : Fact := ⟨fun v w => ∃ (a : Option Addr) (c g : Nat), v = .slice a xs.length c ∧ Rd w g a .u8 xs ∧ (a = none → c = 0) ∧ xs.length ≤ c, fun n h => by
  obtain ⟨a, c, g, e, r, z, l⟩ := h
  exact ⟨a, c, g, e, rd_gm r n, z, l⟩⟩
theorem DrF.of_row {b : Nat} {xs : List Int} {v : Value} {w : World} (h : RowB w b v xs) : (DrF xs).p v w := by
  obtain ⟨a, c, g, e, r, z, l, -⟩ := h.rd
  exact ⟨a, c, g, e, r, z, l⟩
/-- A literal's row, marked or not. -/
def LitF (b : Nat) (ys : List Int) : Fact := ⟨fun v w => ∃ g m, v = .slice (some ⟨g, 0, none⟩) ys.length ys.length ∧ b ≤ g ∧ w.heap[g]? = some (.cells (ys.map (Value.int .u8)).toArray 5 m), fun n h => by
  obtain ⟨g, m, e, hb, hg⟩ := h
  have hl : g < _ := (Array.getElem?_eq_some_iff.1 hg).1
  rcases n.block g hl with f | ⟨_, cs, t, m1, m2, hs, f1, f2⟩
  · exact ⟨g, m, e, hb, f.trans hg⟩
  · rw [hg] at f1
    injection f1 with f1
    injection f1 with g1 g2 _
    rw [← g1, ← g2] at f2
    exact ⟨g, m2, e, hb, f2⟩⟩
theorem rd_lit {w : World} {g : Nat} {ys : List Int} {m : Nat × Nat} (h : w.heap[g]? = some (.cells (ys.map (Value.int .u8)).toArray 5 m)) : Rd w g (some ⟨g, 0, none⟩) .u8 ys := fun _ => ⟨0, rfl, fun i hi => by
  rw [Nat.zero_add]
  simp only [World.cell?, h]
  simp [hi]⟩
/-- The mark of a constant text's bytes. -/
theorem conv_mark {P : Program} (t : TypeId) (ht : P.underlying t = some (.slice 5)) (he : P.underlying 5 = some (.int .u8)) {w : World} {g n c : Nat} {cs : Array Value} {e : TypeId} {m : Nat × Nat} (h : w.heap[g]? = some (.cells cs e m)) :
    (convert t t (.slice (some ⟨g, 0, none⟩) n c)).run P w = .ok (.slice (some ⟨g, 0, none⟩) n c) (w.freeze ⟨g, cs.size, none⟩ 1) := by
  have hsh : w.shape? g = some (e, cs.size) := by
    unfold World.shape?
    rw [h]
  simp [convert, run_underlying ht, run_underlying he, markStringish, hsh]
theorem freeze_at {w : World} {g k : Nat} {cs : Array Value} {e : TypeId} {m : Nat × Nat} (h : w.heap[g]? = some (.cells cs e m)) : ∃ m', (w.freeze ⟨g, k, none⟩ 1).heap[g]? = some (.cells cs e m') := by
  unfold World.freeze
  rw [if_neg (by decide)]
  obtain ⟨lo, hi⟩ := m
  refine ⟨if (lo == hi) = true then (k, k + 1) else (min lo k, max hi (k + 1)), ?_⟩
  show (w.heap.modify g _)[g]? = _
  rw [Array.getElem?_modify, if_pos rfl, h]
  rfl
theorem freeze_off {w : World} {g k b : Nat} (hb : b ≠ g) : (w.freeze ⟨g, k, none⟩ 1).heap[b]? = w.heap[b]? := by
  unfold World.freeze
  rw [if_neg (by decide)]
  show (w.heap.modify g _)[b]? = _
  rw [Array.getElem?_modify, if_neg (Ne.symm hb)]
theorem freeze_gm {w : World} {B g k : Nat} {cs : Array Value} {e : TypeId} {m : Nat × Nat} (h : w.heap[g]? = some (.cells cs e m)) (hs : cs.size = LN) (hB : B ≤ g) : Gm B w (w.freeze ⟨g, k, none⟩ 1) := by
  obtain ⟨m', h'⟩ := freeze_at (k := k) h
  have hz : (w.freeze ⟨g, k, none⟩ 1).heap.size = w.heap.size := by
    unfold World.freeze
    rw [if_neg (by decide)]
    show (w.heap.modify g _).size = _
    simp
  refine ⟨?_, ?_, ?_, Nat.le_of_eq hz.symm, fun b _ => ?_⟩
  · unfold World.freeze; rw [if_neg (by decide)]
  · unfold World.freeze; rw [if_neg (by decide)]
  · unfold World.freeze; rw [if_neg (by decide)]
  · by_cases hb : b = g
    · subst hb
      exact .inr ⟨hB, cs, e, m, m', hs, h, h'⟩
    · exact .inl (freeze_off hb)
section
variable {P : Program} {ops : Array Oper} {Q : Exit → Act → World → Prop} {md : Region.Mode} {F : Nat → Fact} {a0 : Act} {w0 : World}
theorem step_lit {i : Nat} {o : Oper} (hi : ops[i]? = some o) (ys : List Int) (hr : ∀ (a : Act) (w : World), (execOp a.eval o).run P w = .ok (.value (.slice (some ⟨w.heap.size, 0, none⟩) ys.length ys.length)) (w.alloc (.cells (ys.map (Value.int .u8)).toArray 5))) (hF : F i = LitF w0.heap.size ys) : StepOk P md ops Q F a0 w0 i := by
  refine step_grow hi fun a w _ hw _ => ⟨_, _, hr a w, Gm.of_below ((Below.refl _ _).alloc (Nat.le_refl _) _), ?_⟩
  rw [hF]
  exact ⟨w.heap.size, (0, 0), rfl, hw.size, heap_alloc_new w _⟩
theorem step_mark {i : Nat} {o : Oper} (hi : ops[i]? = some o) (t : TypeId) (ht : P.underlying t = some (.slice 5)) (he : P.underlying 5 = some (.int .u8)) (ys : List Int) (hy : ys.length = LN) (j p : Nat) (hop : o.op = .convert t t (.tmp p)) (hj : F j = LitF w0.heap.size ys) (hp : waits md ops i j p = true) (hF : F i = DrF ys) : StepOk P md ops Q F a0 w0 i := by
  refine step_grow hi fun a w _ hw hf => ?_
  have f := hf j p hp
  rw [hj] at f
  obtain ⟨g, m, e, hb, hg⟩ := f
  have cv := conv_mark (P := P) t ht he (n := ys.length) (c := ys.length) hg
  have hs : (ys.map (Value.int .u8)).toArray.size = LN := by simp [hy]
  have GM := freeze_gm (B := w0.heap.size) (k := (ys.map (Value.int .u8)).toArray.size) hg hs hb
  obtain ⟨m', h'⟩ := freeze_at (k := (ys.map (Value.int .u8)).toArray.size) hg
  refine ⟨.slice (some ⟨g, 0, none⟩) ys.length ys.length, _, ?_, GM, ?_⟩
  · have e' : a.eval (.tmp p) = .slice (some ⟨g, 0, none⟩) ys.length ys.length := e
    simp only [execOp, hop, e', Sem.run_bind, cv, Result.andThen_ok]
    rfl
  · rw [hF]
    exact ⟨_, _, g, rfl, rd_lit h', (fun h => nomatch h), Nat.le_refl _⟩
end
section
variable {P : Program} {ops : Array Oper} {Q : Exit → Act → World → Prop} {a0 : Act}
theorem region_appA {id : Nat} {draw : Bool} {w : World} (k jR jS pR pS dA d2 : Nat) (t : TypeId) (o o2 : Oper) (F : Nat → Fact) (GR GS : Fact) (R : Value → World → Prop) (hm : P.follows .mixedOrders = true) (hT : textTail .any draw ops a0.tmps.size k = true) (hk : ops.toList.drop k = [o, o2]) (ho : ops[k]? = some o) (ho2 : ops[k + 1]? = some o2)
    (hop : o.op = .call { callee := .builtin .append, args := #[.tmp pR, .tmp pS], argTypes := #[t, t] }) (hty : o.type = t) (hd : o.dst = some dA) (hd2 : o2.dst = some d2) (hop2 : o2.op = .assign (.tmp dA)) (sA : dA < a0.tmps.size) (s2 : d2 < a0.tmps.size)
    (wR : decide (jR < k) = true ∧ writes ops jR pR = true) (FR : F jR = GR) (wS : decide (jS < k) = true ∧ writes ops jS pS = true) (FS : F jS = GS) (steps : ∀ i, i < k → StepOk P .any ops Q F a0 w i)
    (hA : ∀ W vR vS, Gm w.heap.size w W → GR.p vR W → GS.p vS W → ∃ v' w', (Builtin.append_ #[t, t] t #[vR, vS]).run P W = .ok v' w' ∧ R v' w')
    (fin : ∀ (vs : Nat → Value) (W : World) (v' : Value), vs d2 = v' → R v' W → Q .normal (puts vs a0 ops.toList) W) : (Code.region id ops draw).wp P Q a0 w := by
  refine region_tail k F hm hT steps [] (by simp) (by simp) fun a W hb hw hf _ => ?_
  rw [hk]
  show o.wp P a W (fun a' w'' => o2.wp P a' w'' (fun a'' w3 => Q .normal a'' w3) Q) Q
  have e1 := hf jR pR wR.1 wR.2
  rw [FR] at e1
  have e2 := hf jS pS wS.1 wS.2
  rw [FS] at e2
  obtain ⟨v', w', hr, hR⟩ := hA W _ _ hw e1 e2
  refine Lib.wp_append_run W (.tmp pR) (.tmp pS) t t hop _ _ rfl rfl v' w' (by rw [hty]; exact hr) ?_
  have hb1 := Based.put hb ho v'
  have ea : (a.put o.dst v').eval (.tmp dA) = v' := by
    rw [hd]
    exact put_at (by rw [hb.2.1]; exact sA)
  have hr2 : (execOp (a.put o.dst v').eval o2).run P w' = .ok (.value v') w' := by
    simp [execOp, hop2, ea]
  have hb2 := Based.put hb1 ho2 v'
  have e3 : ((a.put o.dst v').put o2.dst v').tmps.getD d2 undef = v' := by
    rw [hd2]
    exact put_at (by rw [hb1.2.1]; exact s2)
  show o2.upon P (a.put o.dst v') (fun a'' w3 => Q .normal a'' w3) Q ((execOp (a.put o.dst v').eval o2).run P w')
  rw [hr2, Oper.upon_value]
  show Q .normal ((a.put o.dst v').put o2.dst v') w'
  obtain ⟨vs, hvs⟩ : ∃ vs : Nat → Value, ∀ d, ((a.put o.dst v').put o2.dst v').tmps.getD d undef = vs d := ⟨_, fun _ => rfl⟩
  rw [puts_tail hT rfl hb2 vs hvs]
  exact fin vs w' v' (by rw [← hvs, e3]) hR
/-- A new block of a struct's zero cells. -/
def NBt (b : Nat) (t : TypeId) (zs : List Value) (hz : zs.length ≠ LN) : Fact := ⟨fun v w => ∃ q, v = .pointer (some ⟨q, 0, none⟩) ∧ b ≤ q ∧ RwC w q zs t, fun n h => by
  obtain ⟨q, e, l, r⟩ := h
  refine ⟨q, e, l, ?_⟩
  rcases n.block q r.lt with f | ⟨_, cs, t', m1, m2, hs, f1, f2⟩
  · exact f.trans r
  · have r' : _ = _ := r
    rw [r'] at f1
    injection f1 with f1
    injection f1 with g1 _ _
    rw [← g1] at hs
    exact absurd (by simpa using hs) hz⟩
theorem region_newM {id : Nat} {draw : Bool} {w : World} (k jA jV pA pV : Nat) (o : Oper) (F : Nat → Fact) (t : TypeId) (zs : List Value) (hz : zs.length ≠ LN) (G : Fact) (hm : P.follows .mixedOrders = true) (hT : textOk .any ops a0.tmps.size k = true) (hk : ops[k]? = some o) (hd : o.dst = none)
    (hop : o.op = .store t (.tmp pA) (.tmp pV)) (hi : (P.info? t).map (·.size) = some zs.length) (wA : writes ops jA pA = true) (FA : F jA = NBt w.heap.size t zs hz) (wV : writes ops jV pV = true) (FV : F jV = G)
    (hG : ∀ v W, G.p v W → ∃ cs : List Value, v = .agg cs.toArray ∧ cs.length = zs.length ∧ cs.toArray.all (·.oneCell') = true) (steps : ∀ i, i < k → StepOk P .any ops Q F a0 w i)
    (fin : ∀ (vs : Nat → Value) (W W' : World) (q : Nat) (cs : List Value), vs pA = .pointer (some ⟨q, 0, none⟩) → w.heap.size ≤ q → Below w.heap.size w W → RwC W q zs t → G.p (.agg cs.toArray) W → Only q W W' → RwC W' q cs t → Below w.heap.size w W' → Q .normal (puts vs a0 ops.toList) W') : (Code.region id ops draw).wp P Q a0 w := by
  refine region_store k o F hm hT hk hd steps fun a W hb hw hF => ?_
  have e1 := hF jA pA wA
  have e2 := hF jV pV wV
  rw [FA] at e1
  rw [FV] at e2
  obtain ⟨q, e1, hB, hq⟩ := e1
  obtain ⟨cs, ev, hl, h1⟩ := hG _ _ e2
  have TH : W.there q 0 cs.length := by rw [hl]; exact hq.thereG
  refine wp_store_mid _ (.tmp pA) (.tmp pV) hop q 0 cs.toArray e1 ev (by simpa using TH) (by rw [hi]; simp [hl]) h1 ?_
  obtain ⟨vs, hvs⟩ : ∃ vs : Nat → Value, ∀ d, a.tmps.getD d undef = vs d := ⟨_, fun _ => rfl⟩
  rw [hd]
  show Q .normal a _
  rw [puts_of hT rfl hb vs hvs]
  have OQ := only_setG W q cs 0
  have e2' : G.p (.agg cs.toArray) W := by rw [← ev]; exact e2
  exact fin vs W _ q cs ((hvs pA).symm.trans e1) hB hw.below0 hq e2' OQ (RwC.put hq hl) (hw.below0.trans (OQ.below hB))
end
end Go.Proofs.Ytcljoaknaegpmaa.Mk

/-
  A ticket opened; the program's and the model's (written by gens/oti.py).
-/
namespace Go.Proofs.Ytcljoaknaegpmaa
open Go Go.RowKit

/-- A ticket's nonce and what was sealed. -/
def otN (T : List Int) : List Int := T.take 12
def otS (T : List Int) : List Int := T.drop 12
/-- The state's bytes of an opened ticket; none where it is not opened. -/
def tkG (key T : List Int) : Bool := decide (12 ≤ T.length) && opB key (otN T) tkM (otS T)
def otP (key T : List Int) : List Int := if tkG key T = true then opL key (otN T) tkM (otS T) else []
theorem dsB_nil : dsB [] = false := by
  cases e : dsB []
  · rfl
  · have := dsB_len e
    simp at this
theorem byt_takeT {xs : List Int} (h : Byt xs) (n : Nat) : Byt (xs.take n) := fun i => by
  rw [List.getD_eq_getElem?_getD, List.getElem?_take]
  split
  · have := h i; rwa [List.getD_eq_getElem?_getD] at this
  · exact ⟨by simp, by simp⟩
theorem byt_dropT {xs : List Int} (h : Byt xs) (n : Nat) : Byt (xs.drop n) := fun i => by
  rw [List.getD_eq_getElem?_getD, List.getElem?_drop, ← List.getD_eq_getElem?_getD]
  exact h _
theorem opL_bytT {key non ex sd : List Int} (hb : Byt sd) : Byt (opL key non ex sd) := by
  unfold opL
  split
  · exact xt_byt key non (byt_takeT hb _)
  · exact fun i => by simp
theorem iOrT : (Try.prog.info? 45).map (·.size) = some 2 := by kernel_rfl
theorem oneOrT (b : Bool) (a : Option Addr) (n c : Nat) : ([.bool b, .slice a n c] : List Value).toArray.all (·.oneCell') = true := all_oneCell_toArray fun v hv => by
  simp only [List.mem_cons, List.not_mem_nil, or_false] at hv
  rcases hv with rfl | rfl
  all_goals rfl
/-- What Open answered. -/
def OpF (t : Bool) (L : List Int) : Mk.Fact := ⟨fun v w => ∃ (a : Option Addr) (c g : Nat), v = .agg #[.bool t, .slice a L.length c] ∧ Rd w g a .u8 L ∧ (a = none → c = 0) ∧ L.length ≤ c, fun n h => by
  obtain ⟨a, c, g, e, r, z, l⟩ := h
  exact ⟨a, c, g, e, Mk.rd_gm r n, z, l⟩⟩
theorem rd_neT {w : World} {g q : Nat} {a : Option Addr} {xs : List Int} {b : Bool} {t : TypeId} (h : Rd w g a .u8 xs) (hq : RwC w q [.bool b, .slice none 0 0] t) : 0 < xs.length → g ≠ q := fun h0 e => by
  subst e
  obtain ⟨off, ha, hc⟩ := h h0
  have h1 := hc 0 h0
  rw [Nat.add_zero, hq.cell off] at h1
  match off, h1 with
  | 0, h1 => simp at h1
  | 1, h1 => simp at h1
  | n + 2, h1 => simp at h1
/-- An answer: two lists in memory of its own, or none at all. -/
def NewRE (B : Nat) (w' : World) (e : Ending) (gd : Bool) (xs ys : List Int) (md li : Int) (ho pr : ByteArray) (ea : Int) : Prop :=
  (∃ (a : Option Addr) (c g : Nat) (a' : Option Addr) (c' g' : Nat), e = .returned (.agg #[.bool gd, .slice a xs.length c, .slice a' ys.length c', .int .i64 md, .int .i64 li, .string ho, .string pr, .int .i64 ea]) ∧ Own w' g a .u8 xs ∧ Own w' g' a' .u8 ys ∧ g ≠ g' ∧ B ≤ g ∧ g < w'.heap.size ∧ B ≤ g' ∧ g' < w'.heap.size)
  ∨ (xs = [] ∧ ys = [] ∧ e = .returned (.agg #[.bool gd, .slice none 0 0, .slice none 0 0, .int .i64 md, .int .i64 li, .string ho, .string pr, .int .i64 ea]))
theorem NewRE.pick {B : Nat} {w' : World} {e : Ending} {gd : Bool} {xs ys : List Int} {md li : Int} {ho pr : ByteArray} {ea : Int} (h : NewRE B w' e gd xs ys md li ho pr ea) (m0 m1 : Nat) (hm : m0 ≠ m1) (k0 : m0 < w'.heap.size) (k1 : m1 < w'.heap.size) :
    ∃ (a : Option Addr) (c g : Nat) (a' : Option Addr) (c' g' : Nat), e = .returned (.agg #[.bool gd, .slice a xs.length c, .slice a' ys.length c', .int .i64 md, .int .i64 li, .string ho, .string pr, .int .i64 ea]) ∧ Own w' g a .u8 xs ∧ Own w' g' a' .u8 ys ∧ g ≠ g' ∧ g < w'.heap.size ∧ g' < w'.heap.size ∧ ((B ≤ g ∧ B ≤ g') ∨ (xs.length = 0 ∧ ys.length = 0 ∧ g = m0 ∧ g' = m1)) := by
  rcases h with ⟨a, c, g, a', c', g', e, o, o', hne, l, k, l', k'⟩ | ⟨rfl, rfl, e⟩
  · exact ⟨a, c, g, a', c', g', e, o, o', hne, k, k', .inl ⟨l, l'⟩⟩
  · exact ⟨none, 0, m0, none, 0, m1, e, Own.nil _ _ _ _, Own.nil _ _ _ _, hm, k0, k1, .inr ⟨rfl, rfl, rfl, rfl⟩⟩
def NewDE (B : Nat) (w' : World) (e : Ending) (b : List Int) : Prop := NewRE B w' e (dsB b) (rX b) (rY b) (rM b) (rL b) ⟨⟨rH b⟩⟩ ⟨⟨rP b⟩⟩ (rE b)
theorem NewDE.zero (B : Nat) (w' : World) : NewDE B w' (.returned (.agg #[.bool false, .slice none 0 0, .slice none 0 0, .int .i64 0, .int .i64 0, .string ⟨#[]⟩, .string ⟨#[]⟩, .int .i64 0])) [] := by
  have h : ¬ dsB [] = true := by rw [dsB_nil]; decide
  unfold NewDE rX rY rM rL rH rP rE
  rw [if_neg h, if_neg h, if_neg h, if_neg h, if_neg h, if_neg h, if_neg h, dsB_nil]
  exact .inr ⟨rfl, rfl, rfl⟩
set_option maxRecDepth 100000 in
set_option maxHeartbeats 8000000 in
theorem implOt_any (w : World) (g : Nat) (a : Option Addr) (c : Nat) (key : List Int) (hr : Rd w g a .u8 key) (hb : Byt key) (hc : key.length ≤ c) (g' : Nat) (a' : Option Addr) (c' : Nat) (T : List Int) (hr' : Rd w g' a' .u8 T) (hb' : Byt T) (hc' : T.length ≤ c') (hl : T.length ≤ 1048576) :
    Calls Try.prog 16 #[.slice a key.length c, .slice a' T.length c'] w fun e w' => NewDE w.heap.size w' e (otP key T) ∧ Below w.heap.size w w' := by
  obtain ⟨dR, hdR, hrowR⟩ := rowSr
  have z1 : (w.alloc (.cells #[.bool false, .slice none 0 0, .slice none 0 0, .int .i64 0, .int .i64 0, .string ⟨#[]⟩, .string ⟨#[]⟩, .int .i64 0] 36)).heap.size = w.heap.size + 1 := by simp
  have n1 : Below w.heap.size w (w.alloc (.cells #[.bool false, .slice none 0 0, .slice none 0 0, .int .i64 0, .int .i64 0, .string ⟨#[]⟩, .string ⟨#[]⟩, .int .i64 0] 36)) := (Below.refl _ _).alloc (Nat.le_refl _) _
  have Q0 : RwC (w.alloc (.cells #[.bool false, .slice none 0 0, .slice none 0 0, .int .i64 0, .int .i64 0, .string ⟨#[]⟩, .string ⟨#[]⟩, .int .i64 0] 36)) w.heap.size [.bool false, .slice none 0 0, .slice none 0 0, .int .i64 0, .int .i64 0, .string ⟨#[]⟩, .string ⟨#[]⟩, .int .i64 0] 36 := RwC.new w _ _
  have N := n1
  by_cases h12 : 12 ≤ T.length
  · have i12 : decide ((T.length : Int) < 12) = false := decide_eq_false (by omega)
    obtain ⟨o, rfl, hcT⟩ := hr' (by omega)
    have hr' : Rd w g' (some ⟨g', o, none⟩) .u8 T := fun _ => ⟨o, rfl, hcT⟩
    have hN : Rd w g' (some ⟨g', o, none⟩) .u8 (otN T) := hr'.take 12
    obtain ⟨x6, hS⟩ : ∃ x6, (if c' = 12 then (some ⟨g', o, none⟩ : Option Addr) else some ⟨g', o + 12, none⟩) = x6 ∧ Rd w g' x6 .u8 (otS T) := by
      refine ⟨_, rfl, ?_⟩
      by_cases q : T.length = 12
      · have : otS T = [] := List.drop_eq_nil_of_le (by omega)
        rw [this]
        exact Rd.nil _ _ _ _
      · obtain ⟨o', e, hd⟩ := hr'.drop 12 (by omega)
        injection e with e
        injection e with _ e _
        subst e
        rw [if_neg (by omega)]
        exact hd
    have lN : (otN T).length = 12 := by unfold otN; rw [List.length_take]; omega
    have lS : (otS T).length = T.length - 12 := by unfold otS; rw [List.length_drop]
    have OP := hide (fun W (m : Below w.heap.size w W) ge ae ce he en => implOpen_any W g a c key (hr.up m) hb hc g' (some ⟨g', o, none⟩) c' (otN T) (hN.up m) (byt_takeT hb' 12) (by omega) ge ae ce tkM he tkM_byt en g' x6 (c' - 12) (otS T) (hS.2.up m) (byt_dropT hb' 12) (by omega) (by rw [lS]; show 6 + _ ≤ _; omega))
    rw [lN, lS] at OP
    have OB : Hid (Byt (opL key (otN T) tkM (otS T))) := opL_bytT (byt_dropT hb' 12)
    have OL := hide (opL_len key (otN T) tkM (otS T))
    rw [lS] at OL
    have EQ : Hid (otP key T = if opB key (otN T) tkM (otS T) = true then opL key (otN T) tkM (otS T) else []) := by
      show _ = _
      unfold otP tkG
      rw [decide_eq_true h12, Bool.true_and]
    have H12 := hide h12
    have HX := hS.1
    clear hS hN hcT hr lN lS
    generalize opB key (otN T) tkM (otS T) = t at *
    generalize opL key (otN T) tkM (otS T) = L at *
    go_enter Try.func16, Try.ntmps16
    go_upto_region 3 with fail
    generalize w.alloc (.cells #[.bool false, .slice none 0 0, .slice none 0 0, .int .i64 0, .int .i64 0, .string ⟨#[]⟩, .string ⟨#[]⟩, .int .i64 0] 36) = wa at *
    refine Mk.region_newM 9 8 7 5 17 _ (fun i => [Mk.Fact.eq (.slice a key.length c), Mk.Fact.eq (.slice (some ⟨g', o, none⟩) T.length c'), Mk.Fact.eq (.slice (some ⟨g', o, none⟩) 12 c'), Mk.LitF wa.heap.size tkM, Mk.DrF tkM, Mk.Fact.eq (.slice (some ⟨g', o, none⟩) T.length c'), Mk.Fact.eq (.slice x6 (T.length - 12) (c' - 12)), OpF t L, Mk.NBt wa.heap.size 45 [.bool false, .slice none 0 0] (by decide)].getD i Mk.Fact.no) 45 [.bool false, .slice none 0 0] (by decide) (OpF t L) (by kernel_rfl) (by kernel_rfl) rfl rfl rfl iOrT (by kernel_rfl) rfl (by kernel_rfl) rfl ?_ ?_ ?_
    · rintro v W ⟨a, c, g, rfl, -⟩
      exact ⟨[.bool t, .slice a L.length c], rfl, rfl, oneOrT _ _ _ _⟩
    · intro i hi
      obtain rfl | rfl | rfl | rfl | rfl | rfl | rfl | rfl | rfl : i = 0 ∨ i = 1 ∨ i = 2 ∨ i = 3 ∨ i = 4 ∨ i = 5 ∨ i = 6 ∨ i = 7 ∨ i = 8 := by omega
      · refine Mk.step_pure rfl fun A ww hb hw hf => ?_
        have e0 : A.tmps[0]?.getD undef = .slice a key.length c := gdv (hb.2.2 0 (by kernel_rfl))
        exact ⟨_, by simp [go_sem, e0], rfl⟩
      · refine Mk.step_pure rfl fun A ww hb hw hf => ?_
        have e0 : A.tmps[1]?.getD undef = .slice (some ⟨g', o, none⟩) T.length c' := gdv (hb.2.2 1 (by kernel_rfl))
        exact ⟨_, by simp [go_sem, e0], rfl⟩
      · refine Mk.step_pure rfl fun A ww hb hw hf => ?_
        have e0 : A.tmps[11]?.getD undef = .slice (some ⟨g', o, none⟩) T.length c' := gdv (hf 1 11 (by kernel_rfl))
        have k1 : (12 : Int) ≤ (c' : Int) := by have := H12.out; omega
        exact ⟨.slice (some ⟨g', o, none⟩) 12 c', by simp [go_sem, e0, k1], rfl⟩
      · refine Mk.step_lit rfl tkM (fun A ww => ?_) rfl
        simp only [execOp]
        kernel_rfl
      · exact Mk.step_mark rfl 22 Try.underlying22 Try.underlying5 tkM rfl 3 13 rfl rfl (by kernel_rfl) rfl
      · refine Mk.step_pure rfl fun A ww hb hw hf => ?_
        have e0 : A.tmps[1]?.getD undef = .slice (some ⟨g', o, none⟩) T.length c' := gdv (hb.2.2 1 (by kernel_rfl))
        exact ⟨_, by simp [go_sem, e0], rfl⟩
      · refine Mk.step_pure rfl fun A ww hb hw hf => ?_
        have e0 : A.tmps[15]?.getD undef = .slice (some ⟨g', o, none⟩) T.length c' := gdv (hf 5 15 (by kernel_rfl))
        have k1 : (12 : Int) ≤ (T.length : Int) := by have := H12.out; omega
        refine ⟨.slice x6 (T.length - 12) (c' - 12), ?_, rfl⟩
        rw [← HX]
        by_cases q12 : c' = 12
        · rw [if_pos q12]
          have q13 : T.length = 12 := by have := H12.out; omega
          simp [go_sem, e0, q12, q13]
        · rw [if_neg q12]
          simp [go_sem, e0, k1, q12]
      · refine Mk.step_callv rfl 31 _ _ rfl (by kernel_rfl) fun A ww hb hw hf => ?_
        have e0 : A.tmps.getD 10 undef = .slice a key.length c := hf 0 10 (by kernel_rfl)
        have e1 : A.tmps.getD 12 undef = .slice (some ⟨g', o, none⟩) 12 c' := hf 2 12 (by kernel_rfl)
        obtain ⟨x1, x2, x3, e2, x5, x7, x8⟩ : (Mk.DrF tkM).p (A.tmps.getD 14 undef) ww := hf 4 14 (by kernel_rfl)
        have e3 : A.tmps.getD 16 undef = .slice x6 (T.length - 12) (c' - 12) := hf 6 16 (by kernel_rfl)
        show Calls Try.prog 31 #[A.tmps.getD 10 undef, A.tmps.getD 12 undef, A.tmps.getD 14 undef, A.tmps.getD 16 undef] ww _
        rw [e0, e1, e2, e3]
        refine (OP.out ww (nxt n1 hw.below0) x3 x1 x2 x5 x7).mono ?_
        rintro r w' ⟨⟨y1, y2, y3, rfl, y4, y5, y6, y7⟩, n⟩
        exact ⟨_, rfl, Mk.Gm.of_below n, y1, y2, y3, rfl, y4.rd, y5, y6⟩
      · refine Mk.step_grow rfl fun A ww _ hw _ => ⟨.pointer (some ⟨ww.heap.size, 0, none⟩), ww.alloc (.cells #[.bool false, .slice none 0 0] 45), ?_, Mk.Gm.of_below ((Below.refl _ _).alloc (Nat.le_refl _) _), ww.heap.size, rfl, hw.size, RwC.new ww _ _⟩
        simp only [execOp]
        kernel_rfl
    · intro vs W W5 q cs vq hq hw rq hG OQ rc hW
      obtain ⟨a5, c5, g5, ec, o1, o2, o3⟩ := hG
      simp only [Value.agg.injEq, Array.mk.injEq] at ec
      subst ec
      have O5 : Rd W5 g5 a5 .u8 L := o1.of_block' (fun h => OQ.block g5 (rd_neT o1 rq h))
      have N5 := nxt n1 hW
      have ql := rc.lt
      have Q5 := Q0.up hW
      simp only [Mk.puts, vq, Act.put, List.setIfInBounds_toArray, List.set_cons_succ, List.set_cons_zero]
      have qc0 : W5.cell? ⟨q, 0, none⟩ = some (.bool t) := rc.cell 0
      have qc1 : W5.cell? ⟨q, 1, none⟩ = some (.slice a5 L.length c5) := rc.cell 1
      generalize vs 10 = y10 at *
      generalize vs 11 = y11 at *
      generalize vs 12 = y12 at *
      generalize vs 13 = y13 at *
      generalize vs 14 = y14 at *
      generalize vs 15 = y15 at *
      generalize vs 16 = y16 at *
      generalize vs 17 = y17 at *
      clear OQ rq hw OP vq rc o1 hW Q0 N
      have N := N5
      have Q0 := Q5
      clear Q5 N5
      cases t with
      | true =>
        have DG : Hid (otP key T = L) := EQ.out
        have DC := hide (implDcS_any W5 g5 a5 c5 L O5 OB.out o2 o3 (by have := OL.out; omega))
        go_wp2_with fail
        refine DC.out.mono ?_
        rintro e y1 ⟨D, m1⟩
        obtain ⟨ax, cx, gx, ay, cy, gy, rfl, o6, o7, o8, o9, o10, o11, o12⟩ := D
        replace N := nxt N m1
        replace Q0 := Q0.up m1
        have zm := m1.size
        clear m1 DC
        have lq0 := Q0.lt
        have qz0 : y1.cell? ⟨w.heap.size, 0, none⟩ = some (.bool false) := Q0.cell 0
        have qf0 := Q0.free 0
        have qz1 : y1.cell? ⟨w.heap.size, 1, none⟩ = some (.slice none 0 0) := Q0.cell 1
        have qf1 := Q0.free 1
        have qz2 : y1.cell? ⟨w.heap.size, 2, none⟩ = some (.slice none 0 0) := Q0.cell 2
        have qf2 := Q0.free 2
        have qz3 : y1.cell? ⟨w.heap.size, 3, none⟩ = some (.int .i64 0) := Q0.cell 3
        have qf3 := Q0.free 3
        have qz4 : y1.cell? ⟨w.heap.size, 4, none⟩ = some (.int .i64 0) := Q0.cell 4
        have qf4 := Q0.free 4
        have qz5 : y1.cell? ⟨w.heap.size, 5, none⟩ = some (.string ⟨#[]⟩) := Q0.cell 5
        have qf5 := Q0.free 5
        have qz6 : y1.cell? ⟨w.heap.size, 6, none⟩ = some (.string ⟨#[]⟩) := Q0.cell 6
        have qf6 := Q0.free 6
        have qz7 : y1.cell? ⟨w.heap.size, 7, none⟩ = some (.int .i64 0) := Q0.cell 7
        have qf7 := Q0.free 7
        have RF : RwC ((((((((y1.setCell ⟨w.heap.size, 0, none⟩ (.bool (dsB L))).setCell ⟨w.heap.size, 1, none⟩ (.slice ax (rX L).length cx)).setCell ⟨w.heap.size, 2, none⟩ (.slice ay (rY L).length cy)).setCell ⟨w.heap.size, 3, none⟩ (.int .i64 (rM L))).setCell ⟨w.heap.size, 4, none⟩ (.int .i64 (rL L))).setCell ⟨w.heap.size, 5, none⟩ (.string ⟨⟨rH L⟩⟩)).setCell ⟨w.heap.size, 6, none⟩ (.string ⟨⟨rP L⟩⟩)).setCell ⟨w.heap.size, 7, none⟩ (.int .i64 (rE L))) w.heap.size [.bool (dsB L), .slice ax (rX L).length cx, .slice ay (rY L).length cy, .int .i64 (rM L), .int .i64 (rL L), .string ⟨⟨rH L⟩⟩, .string ⟨⟨rP L⟩⟩, .int .i64 (rE L)] 36 := ((((((((Q0.set 0 (.bool (dsB L))).set 1 (.slice ax (rX L).length cx)).set 2 (.slice ay (rY L).length cy)).set 3 (.int .i64 (rM L))).set 4 (.int .i64 (rL L))).set 5 (.string ⟨⟨rH L⟩⟩)).set 6 (.string ⟨⟨rP L⟩⟩)).set 7 (.int .i64 (rE L)))
        have OF : Only w.heap.size y1 ((((((((y1.setCell ⟨w.heap.size, 0, none⟩ (.bool (dsB L))).setCell ⟨w.heap.size, 1, none⟩ (.slice ax (rX L).length cx)).setCell ⟨w.heap.size, 2, none⟩ (.slice ay (rY L).length cy)).setCell ⟨w.heap.size, 3, none⟩ (.int .i64 (rM L))).setCell ⟨w.heap.size, 4, none⟩ (.int .i64 (rL L))).setCell ⟨w.heap.size, 5, none⟩ (.string ⟨⟨rH L⟩⟩)).setCell ⟨w.heap.size, 6, none⟩ (.string ⟨⟨rP L⟩⟩)).setCell ⟨w.heap.size, 7, none⟩ (.int .i64 (rE L))) := ((((((((Only.refl w.heap.size y1).trans (Only.setCell _ w.heap.size 0 _)).trans (Only.setCell _ w.heap.size 1 _)).trans (Only.setCell _ w.heap.size 2 _)).trans (Only.setCell _ w.heap.size 3 _)).trans (Only.setCell _ w.heap.size 4 _)).trans (Only.setCell _ w.heap.size 5 _)).trans (Only.setCell _ w.heap.size 6 _)).trans (Only.setCell _ w.heap.size 7 _)
        have RR := RF.rangeG
        have NF := hide (N.trans (OF.below (B := w.heap.size) (Nat.le_refl _)))
        have p6 := hide (o6.of_block (OF.block gx (by omega)))
        have p7 := hide (o7.of_block (OF.block gy (by omega)))
        have zf : y1.heap.size ≤ ((((((((y1.setCell ⟨w.heap.size, 0, none⟩ (.bool (dsB L))).setCell ⟨w.heap.size, 1, none⟩ (.slice ax (rX L).length cx)).setCell ⟨w.heap.size, 2, none⟩ (.slice ay (rY L).length cy)).setCell ⟨w.heap.size, 3, none⟩ (.int .i64 (rM L))).setCell ⟨w.heap.size, 4, none⟩ (.int .i64 (rL L))).setCell ⟨w.heap.size, 5, none⟩ (.string ⟨⟨rH L⟩⟩)).setCell ⟨w.heap.size, 6, none⟩ (.string ⟨⟨rP L⟩⟩)).setCell ⟨w.heap.size, 7, none⟩ (.int .i64 (rE L))).heap.size := Nat.le_of_eq OF.size.symm
        clear RF OF o6 o7
        go_wp2
        exact bodyPost_ret (v := .agg #[.bool (dsB L), .slice ax (rX L).length cx, .slice ay (rY L).length cy, .int .i64 (rM L), .int .i64 (rL L), .string ⟨⟨rH L⟩⟩, .string ⟨⟨rP L⟩⟩, .int .i64 (rE L)]) (results_cellG Try.results16 _ _ w.heap.size _ dR rfl RR hdR hrowR iSr) rfl ⟨by rw [DG.out]; exact .inl ⟨ax, cx, gx, ay, cy, gy, rfl, p6.out, p7.out, o8, by omega, by omega, by omega, by omega⟩, NF.out⟩
      | false =>
        have DG : Hid (otP key T = []) := EQ.out
        have wl : w.heap.size + 1 ≤ wa.heap.size := by omega
        have qc0 : W5.cell? ⟨w.heap.size, 0, none⟩ = some (.bool false) := Q0.cell 0
        have qf0 := Q0.free 0
        have qc1 : W5.cell? ⟨w.heap.size, 1, none⟩ = some (.slice none 0 0) := Q0.cell 1
        have qf1 := Q0.free 1
        have qc2 : W5.cell? ⟨w.heap.size, 2, none⟩ = some (.slice none 0 0) := Q0.cell 2
        have qf2 := Q0.free 2
        have qc3 : W5.cell? ⟨w.heap.size, 3, none⟩ = some (.int .i64 0) := Q0.cell 3
        have qf3 := Q0.free 3
        have qc4 : W5.cell? ⟨w.heap.size, 4, none⟩ = some (.int .i64 0) := Q0.cell 4
        have qf4 := Q0.free 4
        have qc5 : W5.cell? ⟨w.heap.size, 5, none⟩ = some (.string ⟨#[]⟩) := Q0.cell 5
        have qf5 := Q0.free 5
        have qc6 : W5.cell? ⟨w.heap.size, 6, none⟩ = some (.string ⟨#[]⟩) := Q0.cell 6
        have qf6 := Q0.free 6
        have qc7 : W5.cell? ⟨w.heap.size, 7, none⟩ = some (.int .i64 0) := Q0.cell 7
        have qf7 := Q0.free 7
        have RF : RwC ((((((((W5.setCell ⟨w.heap.size, 0, none⟩ (.bool false)).setCell ⟨w.heap.size, 1, none⟩ (.slice none 0 0)).setCell ⟨w.heap.size, 2, none⟩ (.slice none 0 0)).setCell ⟨w.heap.size, 3, none⟩ (.int .i64 0)).setCell ⟨w.heap.size, 4, none⟩ (.int .i64 0)).setCell ⟨w.heap.size, 5, none⟩ (.string ⟨#[]⟩)).setCell ⟨w.heap.size, 6, none⟩ (.string ⟨#[]⟩)).setCell ⟨w.heap.size, 7, none⟩ (.int .i64 0)) w.heap.size [.bool false, .slice none 0 0, .slice none 0 0, .int .i64 0, .int .i64 0, .string ⟨#[]⟩, .string ⟨#[]⟩, .int .i64 0] 36 := ((((((((Q0.set 0 (.bool false)).set 1 (.slice none 0 0)).set 2 (.slice none 0 0)).set 3 (.int .i64 0)).set 4 (.int .i64 0)).set 5 (.string ⟨#[]⟩)).set 6 (.string ⟨#[]⟩)).set 7 (.int .i64 0))
        have OF : Only w.heap.size W5 ((((((((W5.setCell ⟨w.heap.size, 0, none⟩ (.bool false)).setCell ⟨w.heap.size, 1, none⟩ (.slice none 0 0)).setCell ⟨w.heap.size, 2, none⟩ (.slice none 0 0)).setCell ⟨w.heap.size, 3, none⟩ (.int .i64 0)).setCell ⟨w.heap.size, 4, none⟩ (.int .i64 0)).setCell ⟨w.heap.size, 5, none⟩ (.string ⟨#[]⟩)).setCell ⟨w.heap.size, 6, none⟩ (.string ⟨#[]⟩)).setCell ⟨w.heap.size, 7, none⟩ (.int .i64 0)) := ((((((((Only.refl w.heap.size W5).trans (Only.setCell _ w.heap.size 0 _)).trans (Only.setCell _ w.heap.size 1 _)).trans (Only.setCell _ w.heap.size 2 _)).trans (Only.setCell _ w.heap.size 3 _)).trans (Only.setCell _ w.heap.size 4 _)).trans (Only.setCell _ w.heap.size 5 _)).trans (Only.setCell _ w.heap.size 6 _)).trans (Only.setCell _ w.heap.size 7 _)
        have RR := RF.rangeG
        have NF := N.trans (OF.below (B := w.heap.size) (Nat.le_refl _))
        clear RF OF
        go_wp2
        exact bodyPost_ret (v := .agg #[.bool false, .slice none 0 0, .slice none 0 0, .int .i64 0, .int .i64 0, .string ⟨#[]⟩, .string ⟨#[]⟩, .int .i64 0]) (results_cellG Try.results16 _ _ w.heap.size _ dR rfl RR hdR hrowR iSr) rfl ⟨by rw [DG.out]; exact NewDE.zero _ _, NF⟩
  · have i12 : decide ((T.length : Int) < 12) = true := decide_eq_true (by omega)
    have DG : Hid (otP key T = []) := by
      show _ = _
      unfold otP tkG
      rw [decide_eq_false h12, Bool.false_and, if_neg (by decide)]
    go_enter Try.func16, Try.ntmps16
    go_upto_region 1 with fail
    generalize w.alloc (.cells #[.bool false, .slice none 0 0, .slice none 0 0, .int .i64 0, .int .i64 0, .string ⟨#[]⟩, .string ⟨#[]⟩, .int .i64 0] 36) = wa at *
    have qc0 : wa.cell? ⟨w.heap.size, 0, none⟩ = some (.bool false) := Q0.cell 0
    have qf0 := Q0.free 0
    have qc1 : wa.cell? ⟨w.heap.size, 1, none⟩ = some (.slice none 0 0) := Q0.cell 1
    have qf1 := Q0.free 1
    have qc2 : wa.cell? ⟨w.heap.size, 2, none⟩ = some (.slice none 0 0) := Q0.cell 2
    have qf2 := Q0.free 2
    have qc3 : wa.cell? ⟨w.heap.size, 3, none⟩ = some (.int .i64 0) := Q0.cell 3
    have qf3 := Q0.free 3
    have qc4 : wa.cell? ⟨w.heap.size, 4, none⟩ = some (.int .i64 0) := Q0.cell 4
    have qf4 := Q0.free 4
    have qc5 : wa.cell? ⟨w.heap.size, 5, none⟩ = some (.string ⟨#[]⟩) := Q0.cell 5
    have qf5 := Q0.free 5
    have qc6 : wa.cell? ⟨w.heap.size, 6, none⟩ = some (.string ⟨#[]⟩) := Q0.cell 6
    have qf6 := Q0.free 6
    have qc7 : wa.cell? ⟨w.heap.size, 7, none⟩ = some (.int .i64 0) := Q0.cell 7
    have qf7 := Q0.free 7
    have RF : RwC ((((((((wa.setCell ⟨w.heap.size, 0, none⟩ (.bool false)).setCell ⟨w.heap.size, 1, none⟩ (.slice none 0 0)).setCell ⟨w.heap.size, 2, none⟩ (.slice none 0 0)).setCell ⟨w.heap.size, 3, none⟩ (.int .i64 0)).setCell ⟨w.heap.size, 4, none⟩ (.int .i64 0)).setCell ⟨w.heap.size, 5, none⟩ (.string ⟨#[]⟩)).setCell ⟨w.heap.size, 6, none⟩ (.string ⟨#[]⟩)).setCell ⟨w.heap.size, 7, none⟩ (.int .i64 0)) w.heap.size [.bool false, .slice none 0 0, .slice none 0 0, .int .i64 0, .int .i64 0, .string ⟨#[]⟩, .string ⟨#[]⟩, .int .i64 0] 36 := ((((((((Q0.set 0 (.bool false)).set 1 (.slice none 0 0)).set 2 (.slice none 0 0)).set 3 (.int .i64 0)).set 4 (.int .i64 0)).set 5 (.string ⟨#[]⟩)).set 6 (.string ⟨#[]⟩)).set 7 (.int .i64 0))
    have OF : Only w.heap.size wa ((((((((wa.setCell ⟨w.heap.size, 0, none⟩ (.bool false)).setCell ⟨w.heap.size, 1, none⟩ (.slice none 0 0)).setCell ⟨w.heap.size, 2, none⟩ (.slice none 0 0)).setCell ⟨w.heap.size, 3, none⟩ (.int .i64 0)).setCell ⟨w.heap.size, 4, none⟩ (.int .i64 0)).setCell ⟨w.heap.size, 5, none⟩ (.string ⟨#[]⟩)).setCell ⟨w.heap.size, 6, none⟩ (.string ⟨#[]⟩)).setCell ⟨w.heap.size, 7, none⟩ (.int .i64 0)) := ((((((((Only.refl w.heap.size wa).trans (Only.setCell _ w.heap.size 0 _)).trans (Only.setCell _ w.heap.size 1 _)).trans (Only.setCell _ w.heap.size 2 _)).trans (Only.setCell _ w.heap.size 3 _)).trans (Only.setCell _ w.heap.size 4 _)).trans (Only.setCell _ w.heap.size 5 _)).trans (Only.setCell _ w.heap.size 6 _)).trans (Only.setCell _ w.heap.size 7 _)
    have RR := RF.rangeG
    have NF := N.trans (OF.below (B := w.heap.size) (Nat.le_refl _))
    clear RF OF
    go_wp2
    exact bodyPost_ret (v := .agg #[.bool false, .slice none 0 0, .slice none 0 0, .int .i64 0, .int .i64 0, .string ⟨#[]⟩, .string ⟨#[]⟩, .int .i64 0]) (results_cellG Try.results16 _ _ w.heap.size _ dR rfl RR hdR hrowR iSr) rfl ⟨by rw [DG.out]; exact NewDE.zero _ _, NF⟩
set_option maxRecDepth 100000 in
set_option maxHeartbeats 8000000 in
theorem specOt_any (w : World) (g : Nat) (a : Option Addr) (c : Nat) (key : List Int) (hr : Rd w g a .u8 key) (hb : Byt key) (hc : key.length ≤ c) (g' : Nat) (a' : Option Addr) (c' : Nat) (T : List Int) (hr' : Rd w g' a' .u8 T) (hb' : Byt T) (hc' : T.length ≤ c') (hl : T.length ≤ 1048576) :
    Calls Try.prog 15 #[.slice a key.length c, .slice a' T.length c'] w fun e w' => NewDE w.heap.size w' e (otP key T) ∧ Below w.heap.size w w' := by
  obtain ⟨dR, hdR, hrowR⟩ := rowSr
  have z1 : (w.alloc (.cells #[.bool false, .slice none 0 0, .slice none 0 0, .int .i64 0, .int .i64 0, .string ⟨#[]⟩, .string ⟨#[]⟩, .int .i64 0] 36)).heap.size = w.heap.size + 1 := by simp
  have n1 : Below w.heap.size w (w.alloc (.cells #[.bool false, .slice none 0 0, .slice none 0 0, .int .i64 0, .int .i64 0, .string ⟨#[]⟩, .string ⟨#[]⟩, .int .i64 0] 36)) := (Below.refl _ _).alloc (Nat.le_refl _) _
  have Q0 : RwC (w.alloc (.cells #[.bool false, .slice none 0 0, .slice none 0 0, .int .i64 0, .int .i64 0, .string ⟨#[]⟩, .string ⟨#[]⟩, .int .i64 0] 36)) w.heap.size [.bool false, .slice none 0 0, .slice none 0 0, .int .i64 0, .int .i64 0, .string ⟨#[]⟩, .string ⟨#[]⟩, .int .i64 0] 36 := RwC.new w _ _
  have N := n1
  by_cases h12 : 12 ≤ T.length
  · have i12 : decide ((T.length : Int) < 12) = false := decide_eq_false (by omega)
    obtain ⟨o, rfl, hcT⟩ := hr' (by omega)
    have hr' : Rd w g' (some ⟨g', o, none⟩) .u8 T := fun _ => ⟨o, rfl, hcT⟩
    have hN : Rd w g' (some ⟨g', o, none⟩) .u8 (otN T) := hr'.take 12
    obtain ⟨x6, hS⟩ : ∃ x6, (if c' = 12 then (some ⟨g', o, none⟩ : Option Addr) else some ⟨g', o + 12, none⟩) = x6 ∧ Rd w g' x6 .u8 (otS T) := by
      refine ⟨_, rfl, ?_⟩
      by_cases q : T.length = 12
      · have : otS T = [] := List.drop_eq_nil_of_le (by omega)
        rw [this]
        exact Rd.nil _ _ _ _
      · obtain ⟨o', e, hd⟩ := hr'.drop 12 (by omega)
        injection e with e
        injection e with _ e _
        subst e
        rw [if_neg (by omega)]
        exact hd
    have lN : (otN T).length = 12 := by unfold otN; rw [List.length_take]; omega
    have lS : (otS T).length = T.length - 12 := by unfold otS; rw [List.length_drop]
    have OP := hide (fun W (m : Below w.heap.size w W) ge ae ce he en => specOpen_any W g a c key (hr.up m) hb hc g' (some ⟨g', o, none⟩) c' (otN T) (hN.up m) (byt_takeT hb' 12) (by omega) ge ae ce tkM he tkM_byt en g' x6 (c' - 12) (otS T) (hS.2.up m) (byt_dropT hb' 12) (by omega) (by rw [lS]; show 6 + _ ≤ _; omega))
    rw [lN, lS] at OP
    have OB : Hid (Byt (opL key (otN T) tkM (otS T))) := opL_bytT (byt_dropT hb' 12)
    have OL := hide (opL_len key (otN T) tkM (otS T))
    rw [lS] at OL
    have EQ : Hid (otP key T = if opB key (otN T) tkM (otS T) = true then opL key (otN T) tkM (otS T) else []) := by
      show _ = _
      unfold otP tkG
      rw [decide_eq_true h12, Bool.true_and]
    have H12 := hide h12
    have HX := hS.1
    clear hS hN hcT hr lN lS
    generalize opB key (otN T) tkM (otS T) = t at *
    generalize opL key (otN T) tkM (otS T) = L at *
    go_enter Try.func15, Try.ntmps15
    go_upto_region 3 with fail
    generalize w.alloc (.cells #[.bool false, .slice none 0 0, .slice none 0 0, .int .i64 0, .int .i64 0, .string ⟨#[]⟩, .string ⟨#[]⟩, .int .i64 0] 36) = wa at *
    refine Mk.region_newM 9 8 7 5 17 _ (fun i => [Mk.Fact.eq (.slice a key.length c), Mk.Fact.eq (.slice (some ⟨g', o, none⟩) T.length c'), Mk.Fact.eq (.slice (some ⟨g', o, none⟩) 12 c'), Mk.LitF wa.heap.size tkM, Mk.DrF tkM, Mk.Fact.eq (.slice (some ⟨g', o, none⟩) T.length c'), Mk.Fact.eq (.slice x6 (T.length - 12) (c' - 12)), OpF t L, Mk.NBt wa.heap.size 45 [.bool false, .slice none 0 0] (by decide)].getD i Mk.Fact.no) 45 [.bool false, .slice none 0 0] (by decide) (OpF t L) (by kernel_rfl) (by kernel_rfl) rfl rfl rfl iOrT (by kernel_rfl) rfl (by kernel_rfl) rfl ?_ ?_ ?_
    · rintro v W ⟨a, c, g, rfl, -⟩
      exact ⟨[.bool t, .slice a L.length c], rfl, rfl, oneOrT _ _ _ _⟩
    · intro i hi
      obtain rfl | rfl | rfl | rfl | rfl | rfl | rfl | rfl | rfl : i = 0 ∨ i = 1 ∨ i = 2 ∨ i = 3 ∨ i = 4 ∨ i = 5 ∨ i = 6 ∨ i = 7 ∨ i = 8 := by omega
      · refine Mk.step_pure rfl fun A ww hb hw hf => ?_
        have e0 : A.tmps[0]?.getD undef = .slice a key.length c := gdv (hb.2.2 0 (by kernel_rfl))
        exact ⟨_, by simp [go_sem, e0], rfl⟩
      · refine Mk.step_pure rfl fun A ww hb hw hf => ?_
        have e0 : A.tmps[1]?.getD undef = .slice (some ⟨g', o, none⟩) T.length c' := gdv (hb.2.2 1 (by kernel_rfl))
        exact ⟨_, by simp [go_sem, e0], rfl⟩
      · refine Mk.step_pure rfl fun A ww hb hw hf => ?_
        have e0 : A.tmps[11]?.getD undef = .slice (some ⟨g', o, none⟩) T.length c' := gdv (hf 1 11 (by kernel_rfl))
        have k1 : (12 : Int) ≤ (c' : Int) := by have := H12.out; omega
        exact ⟨.slice (some ⟨g', o, none⟩) 12 c', by simp [go_sem, e0, k1], rfl⟩
      · refine Mk.step_lit rfl tkM (fun A ww => ?_) rfl
        simp only [execOp]
        kernel_rfl
      · exact Mk.step_mark rfl 22 Try.underlying22 Try.underlying5 tkM rfl 3 13 rfl rfl (by kernel_rfl) rfl
      · refine Mk.step_pure rfl fun A ww hb hw hf => ?_
        have e0 : A.tmps[1]?.getD undef = .slice (some ⟨g', o, none⟩) T.length c' := gdv (hb.2.2 1 (by kernel_rfl))
        exact ⟨_, by simp [go_sem, e0], rfl⟩
      · refine Mk.step_pure rfl fun A ww hb hw hf => ?_
        have e0 : A.tmps[15]?.getD undef = .slice (some ⟨g', o, none⟩) T.length c' := gdv (hf 5 15 (by kernel_rfl))
        have k1 : (12 : Int) ≤ (T.length : Int) := by have := H12.out; omega
        refine ⟨.slice x6 (T.length - 12) (c' - 12), ?_, rfl⟩
        rw [← HX]
        by_cases q12 : c' = 12
        · rw [if_pos q12]
          have q13 : T.length = 12 := by have := H12.out; omega
          simp [go_sem, e0, q12, q13]
        · rw [if_neg q12]
          simp [go_sem, e0, k1, q12]
      · refine Mk.step_callv rfl 29 _ _ rfl (by kernel_rfl) fun A ww hb hw hf => ?_
        have e0 : A.tmps.getD 10 undef = .slice a key.length c := hf 0 10 (by kernel_rfl)
        have e1 : A.tmps.getD 12 undef = .slice (some ⟨g', o, none⟩) 12 c' := hf 2 12 (by kernel_rfl)
        obtain ⟨x1, x2, x3, e2, x5, x7, x8⟩ : (Mk.DrF tkM).p (A.tmps.getD 14 undef) ww := hf 4 14 (by kernel_rfl)
        have e3 : A.tmps.getD 16 undef = .slice x6 (T.length - 12) (c' - 12) := hf 6 16 (by kernel_rfl)
        show Calls Try.prog 29 #[A.tmps.getD 10 undef, A.tmps.getD 12 undef, A.tmps.getD 14 undef, A.tmps.getD 16 undef] ww _
        rw [e0, e1, e2, e3]
        refine (OP.out ww (nxt n1 hw.below0) x3 x1 x2 x5 x7).mono ?_
        rintro r w' ⟨⟨y1, y2, y3, rfl, y4, y5, y6, y7⟩, n⟩
        exact ⟨_, rfl, Mk.Gm.of_below n, y1, y2, y3, rfl, y4.rd, y5, y6⟩
      · refine Mk.step_grow rfl fun A ww _ hw _ => ⟨.pointer (some ⟨ww.heap.size, 0, none⟩), ww.alloc (.cells #[.bool false, .slice none 0 0] 45), ?_, Mk.Gm.of_below ((Below.refl _ _).alloc (Nat.le_refl _) _), ww.heap.size, rfl, hw.size, RwC.new ww _ _⟩
        simp only [execOp]
        kernel_rfl
    · intro vs W W5 q cs vq hq hw rq hG OQ rc hW
      obtain ⟨a5, c5, g5, ec, o1, o2, o3⟩ := hG
      simp only [Value.agg.injEq, Array.mk.injEq] at ec
      subst ec
      have O5 : Rd W5 g5 a5 .u8 L := o1.of_block' (fun h => OQ.block g5 (rd_neT o1 rq h))
      have N5 := nxt n1 hW
      have ql := rc.lt
      have Q5 := Q0.up hW
      simp only [Mk.puts, vq, Act.put, List.setIfInBounds_toArray, List.set_cons_succ, List.set_cons_zero]
      have qc0 : W5.cell? ⟨q, 0, none⟩ = some (.bool t) := rc.cell 0
      have qc1 : W5.cell? ⟨q, 1, none⟩ = some (.slice a5 L.length c5) := rc.cell 1
      generalize vs 10 = y10 at *
      generalize vs 11 = y11 at *
      generalize vs 12 = y12 at *
      generalize vs 13 = y13 at *
      generalize vs 14 = y14 at *
      generalize vs 15 = y15 at *
      generalize vs 16 = y16 at *
      generalize vs 17 = y17 at *
      clear OQ rq hw OP vq rc o1 hW Q0 N
      have N := N5
      have Q0 := Q5
      clear Q5 N5
      cases t with
      | true =>
        have DG : Hid (otP key T = L) := EQ.out
        have DC := hide (specDcS_any W5 g5 a5 c5 L O5 OB.out (by have := OL.out; omega))
        go_wp2_with fail
        refine DC.out.mono ?_
        rintro e y1 ⟨D, m1⟩
        obtain ⟨ax, cx, gx, ay, cy, gy, rfl, o6, o7, o8, o9, o10, o11, o12⟩ := D
        replace N := nxt N m1
        replace Q0 := Q0.up m1
        have zm := m1.size
        clear m1 DC
        have lq0 := Q0.lt
        have qz0 : y1.cell? ⟨w.heap.size, 0, none⟩ = some (.bool false) := Q0.cell 0
        have qf0 := Q0.free 0
        have qz1 : y1.cell? ⟨w.heap.size, 1, none⟩ = some (.slice none 0 0) := Q0.cell 1
        have qf1 := Q0.free 1
        have qz2 : y1.cell? ⟨w.heap.size, 2, none⟩ = some (.slice none 0 0) := Q0.cell 2
        have qf2 := Q0.free 2
        have qz3 : y1.cell? ⟨w.heap.size, 3, none⟩ = some (.int .i64 0) := Q0.cell 3
        have qf3 := Q0.free 3
        have qz4 : y1.cell? ⟨w.heap.size, 4, none⟩ = some (.int .i64 0) := Q0.cell 4
        have qf4 := Q0.free 4
        have qz5 : y1.cell? ⟨w.heap.size, 5, none⟩ = some (.string ⟨#[]⟩) := Q0.cell 5
        have qf5 := Q0.free 5
        have qz6 : y1.cell? ⟨w.heap.size, 6, none⟩ = some (.string ⟨#[]⟩) := Q0.cell 6
        have qf6 := Q0.free 6
        have qz7 : y1.cell? ⟨w.heap.size, 7, none⟩ = some (.int .i64 0) := Q0.cell 7
        have qf7 := Q0.free 7
        have RF : RwC ((((((((y1.setCell ⟨w.heap.size, 0, none⟩ (.bool (dsB L))).setCell ⟨w.heap.size, 1, none⟩ (.slice ax (rX L).length cx)).setCell ⟨w.heap.size, 2, none⟩ (.slice ay (rY L).length cy)).setCell ⟨w.heap.size, 3, none⟩ (.int .i64 (rM L))).setCell ⟨w.heap.size, 4, none⟩ (.int .i64 (rL L))).setCell ⟨w.heap.size, 5, none⟩ (.string ⟨⟨rH L⟩⟩)).setCell ⟨w.heap.size, 6, none⟩ (.string ⟨⟨rP L⟩⟩)).setCell ⟨w.heap.size, 7, none⟩ (.int .i64 (rE L))) w.heap.size [.bool (dsB L), .slice ax (rX L).length cx, .slice ay (rY L).length cy, .int .i64 (rM L), .int .i64 (rL L), .string ⟨⟨rH L⟩⟩, .string ⟨⟨rP L⟩⟩, .int .i64 (rE L)] 36 := ((((((((Q0.set 0 (.bool (dsB L))).set 1 (.slice ax (rX L).length cx)).set 2 (.slice ay (rY L).length cy)).set 3 (.int .i64 (rM L))).set 4 (.int .i64 (rL L))).set 5 (.string ⟨⟨rH L⟩⟩)).set 6 (.string ⟨⟨rP L⟩⟩)).set 7 (.int .i64 (rE L)))
        have OF : Only w.heap.size y1 ((((((((y1.setCell ⟨w.heap.size, 0, none⟩ (.bool (dsB L))).setCell ⟨w.heap.size, 1, none⟩ (.slice ax (rX L).length cx)).setCell ⟨w.heap.size, 2, none⟩ (.slice ay (rY L).length cy)).setCell ⟨w.heap.size, 3, none⟩ (.int .i64 (rM L))).setCell ⟨w.heap.size, 4, none⟩ (.int .i64 (rL L))).setCell ⟨w.heap.size, 5, none⟩ (.string ⟨⟨rH L⟩⟩)).setCell ⟨w.heap.size, 6, none⟩ (.string ⟨⟨rP L⟩⟩)).setCell ⟨w.heap.size, 7, none⟩ (.int .i64 (rE L))) := ((((((((Only.refl w.heap.size y1).trans (Only.setCell _ w.heap.size 0 _)).trans (Only.setCell _ w.heap.size 1 _)).trans (Only.setCell _ w.heap.size 2 _)).trans (Only.setCell _ w.heap.size 3 _)).trans (Only.setCell _ w.heap.size 4 _)).trans (Only.setCell _ w.heap.size 5 _)).trans (Only.setCell _ w.heap.size 6 _)).trans (Only.setCell _ w.heap.size 7 _)
        have RR := RF.rangeG
        have NF := hide (N.trans (OF.below (B := w.heap.size) (Nat.le_refl _)))
        have p6 := hide (o6.of_block (OF.block gx (by omega)))
        have p7 := hide (o7.of_block (OF.block gy (by omega)))
        have zf : y1.heap.size ≤ ((((((((y1.setCell ⟨w.heap.size, 0, none⟩ (.bool (dsB L))).setCell ⟨w.heap.size, 1, none⟩ (.slice ax (rX L).length cx)).setCell ⟨w.heap.size, 2, none⟩ (.slice ay (rY L).length cy)).setCell ⟨w.heap.size, 3, none⟩ (.int .i64 (rM L))).setCell ⟨w.heap.size, 4, none⟩ (.int .i64 (rL L))).setCell ⟨w.heap.size, 5, none⟩ (.string ⟨⟨rH L⟩⟩)).setCell ⟨w.heap.size, 6, none⟩ (.string ⟨⟨rP L⟩⟩)).setCell ⟨w.heap.size, 7, none⟩ (.int .i64 (rE L))).heap.size := Nat.le_of_eq OF.size.symm
        clear RF OF o6 o7
        go_wp2
        exact bodyPost_ret (v := .agg #[.bool (dsB L), .slice ax (rX L).length cx, .slice ay (rY L).length cy, .int .i64 (rM L), .int .i64 (rL L), .string ⟨⟨rH L⟩⟩, .string ⟨⟨rP L⟩⟩, .int .i64 (rE L)]) (results_cellG Try.results15 _ _ w.heap.size _ dR rfl RR hdR hrowR iSr) rfl ⟨by rw [DG.out]; exact .inl ⟨ax, cx, gx, ay, cy, gy, rfl, p6.out, p7.out, o8, by omega, by omega, by omega, by omega⟩, NF.out⟩
      | false =>
        have DG : Hid (otP key T = []) := EQ.out
        have wl : w.heap.size + 1 ≤ wa.heap.size := by omega
        have qc0 : W5.cell? ⟨w.heap.size, 0, none⟩ = some (.bool false) := Q0.cell 0
        have qf0 := Q0.free 0
        have qc1 : W5.cell? ⟨w.heap.size, 1, none⟩ = some (.slice none 0 0) := Q0.cell 1
        have qf1 := Q0.free 1
        have qc2 : W5.cell? ⟨w.heap.size, 2, none⟩ = some (.slice none 0 0) := Q0.cell 2
        have qf2 := Q0.free 2
        have qc3 : W5.cell? ⟨w.heap.size, 3, none⟩ = some (.int .i64 0) := Q0.cell 3
        have qf3 := Q0.free 3
        have qc4 : W5.cell? ⟨w.heap.size, 4, none⟩ = some (.int .i64 0) := Q0.cell 4
        have qf4 := Q0.free 4
        have qc5 : W5.cell? ⟨w.heap.size, 5, none⟩ = some (.string ⟨#[]⟩) := Q0.cell 5
        have qf5 := Q0.free 5
        have qc6 : W5.cell? ⟨w.heap.size, 6, none⟩ = some (.string ⟨#[]⟩) := Q0.cell 6
        have qf6 := Q0.free 6
        have qc7 : W5.cell? ⟨w.heap.size, 7, none⟩ = some (.int .i64 0) := Q0.cell 7
        have qf7 := Q0.free 7
        have RF : RwC ((((((((W5.setCell ⟨w.heap.size, 0, none⟩ (.bool false)).setCell ⟨w.heap.size, 1, none⟩ (.slice none 0 0)).setCell ⟨w.heap.size, 2, none⟩ (.slice none 0 0)).setCell ⟨w.heap.size, 3, none⟩ (.int .i64 0)).setCell ⟨w.heap.size, 4, none⟩ (.int .i64 0)).setCell ⟨w.heap.size, 5, none⟩ (.string ⟨#[]⟩)).setCell ⟨w.heap.size, 6, none⟩ (.string ⟨#[]⟩)).setCell ⟨w.heap.size, 7, none⟩ (.int .i64 0)) w.heap.size [.bool false, .slice none 0 0, .slice none 0 0, .int .i64 0, .int .i64 0, .string ⟨#[]⟩, .string ⟨#[]⟩, .int .i64 0] 36 := ((((((((Q0.set 0 (.bool false)).set 1 (.slice none 0 0)).set 2 (.slice none 0 0)).set 3 (.int .i64 0)).set 4 (.int .i64 0)).set 5 (.string ⟨#[]⟩)).set 6 (.string ⟨#[]⟩)).set 7 (.int .i64 0))
        have OF : Only w.heap.size W5 ((((((((W5.setCell ⟨w.heap.size, 0, none⟩ (.bool false)).setCell ⟨w.heap.size, 1, none⟩ (.slice none 0 0)).setCell ⟨w.heap.size, 2, none⟩ (.slice none 0 0)).setCell ⟨w.heap.size, 3, none⟩ (.int .i64 0)).setCell ⟨w.heap.size, 4, none⟩ (.int .i64 0)).setCell ⟨w.heap.size, 5, none⟩ (.string ⟨#[]⟩)).setCell ⟨w.heap.size, 6, none⟩ (.string ⟨#[]⟩)).setCell ⟨w.heap.size, 7, none⟩ (.int .i64 0)) := ((((((((Only.refl w.heap.size W5).trans (Only.setCell _ w.heap.size 0 _)).trans (Only.setCell _ w.heap.size 1 _)).trans (Only.setCell _ w.heap.size 2 _)).trans (Only.setCell _ w.heap.size 3 _)).trans (Only.setCell _ w.heap.size 4 _)).trans (Only.setCell _ w.heap.size 5 _)).trans (Only.setCell _ w.heap.size 6 _)).trans (Only.setCell _ w.heap.size 7 _)
        have RR := RF.rangeG
        have NF := N.trans (OF.below (B := w.heap.size) (Nat.le_refl _))
        clear RF OF
        go_wp2
        exact bodyPost_ret (v := .agg #[.bool false, .slice none 0 0, .slice none 0 0, .int .i64 0, .int .i64 0, .string ⟨#[]⟩, .string ⟨#[]⟩, .int .i64 0]) (results_cellG Try.results15 _ _ w.heap.size _ dR rfl RR hdR hrowR iSr) rfl ⟨by rw [DG.out]; exact NewDE.zero _ _, NF⟩
  · have i12 : decide ((T.length : Int) < 12) = true := decide_eq_true (by omega)
    have DG : Hid (otP key T = []) := by
      show _ = _
      unfold otP tkG
      rw [decide_eq_false h12, Bool.false_and, if_neg (by decide)]
    go_enter Try.func15, Try.ntmps15
    go_upto_region 1 with fail
    generalize w.alloc (.cells #[.bool false, .slice none 0 0, .slice none 0 0, .int .i64 0, .int .i64 0, .string ⟨#[]⟩, .string ⟨#[]⟩, .int .i64 0] 36) = wa at *
    have qc0 : wa.cell? ⟨w.heap.size, 0, none⟩ = some (.bool false) := Q0.cell 0
    have qf0 := Q0.free 0
    have qc1 : wa.cell? ⟨w.heap.size, 1, none⟩ = some (.slice none 0 0) := Q0.cell 1
    have qf1 := Q0.free 1
    have qc2 : wa.cell? ⟨w.heap.size, 2, none⟩ = some (.slice none 0 0) := Q0.cell 2
    have qf2 := Q0.free 2
    have qc3 : wa.cell? ⟨w.heap.size, 3, none⟩ = some (.int .i64 0) := Q0.cell 3
    have qf3 := Q0.free 3
    have qc4 : wa.cell? ⟨w.heap.size, 4, none⟩ = some (.int .i64 0) := Q0.cell 4
    have qf4 := Q0.free 4
    have qc5 : wa.cell? ⟨w.heap.size, 5, none⟩ = some (.string ⟨#[]⟩) := Q0.cell 5
    have qf5 := Q0.free 5
    have qc6 : wa.cell? ⟨w.heap.size, 6, none⟩ = some (.string ⟨#[]⟩) := Q0.cell 6
    have qf6 := Q0.free 6
    have qc7 : wa.cell? ⟨w.heap.size, 7, none⟩ = some (.int .i64 0) := Q0.cell 7
    have qf7 := Q0.free 7
    have RF : RwC ((((((((wa.setCell ⟨w.heap.size, 0, none⟩ (.bool false)).setCell ⟨w.heap.size, 1, none⟩ (.slice none 0 0)).setCell ⟨w.heap.size, 2, none⟩ (.slice none 0 0)).setCell ⟨w.heap.size, 3, none⟩ (.int .i64 0)).setCell ⟨w.heap.size, 4, none⟩ (.int .i64 0)).setCell ⟨w.heap.size, 5, none⟩ (.string ⟨#[]⟩)).setCell ⟨w.heap.size, 6, none⟩ (.string ⟨#[]⟩)).setCell ⟨w.heap.size, 7, none⟩ (.int .i64 0)) w.heap.size [.bool false, .slice none 0 0, .slice none 0 0, .int .i64 0, .int .i64 0, .string ⟨#[]⟩, .string ⟨#[]⟩, .int .i64 0] 36 := ((((((((Q0.set 0 (.bool false)).set 1 (.slice none 0 0)).set 2 (.slice none 0 0)).set 3 (.int .i64 0)).set 4 (.int .i64 0)).set 5 (.string ⟨#[]⟩)).set 6 (.string ⟨#[]⟩)).set 7 (.int .i64 0))
    have OF : Only w.heap.size wa ((((((((wa.setCell ⟨w.heap.size, 0, none⟩ (.bool false)).setCell ⟨w.heap.size, 1, none⟩ (.slice none 0 0)).setCell ⟨w.heap.size, 2, none⟩ (.slice none 0 0)).setCell ⟨w.heap.size, 3, none⟩ (.int .i64 0)).setCell ⟨w.heap.size, 4, none⟩ (.int .i64 0)).setCell ⟨w.heap.size, 5, none⟩ (.string ⟨#[]⟩)).setCell ⟨w.heap.size, 6, none⟩ (.string ⟨#[]⟩)).setCell ⟨w.heap.size, 7, none⟩ (.int .i64 0)) := ((((((((Only.refl w.heap.size wa).trans (Only.setCell _ w.heap.size 0 _)).trans (Only.setCell _ w.heap.size 1 _)).trans (Only.setCell _ w.heap.size 2 _)).trans (Only.setCell _ w.heap.size 3 _)).trans (Only.setCell _ w.heap.size 4 _)).trans (Only.setCell _ w.heap.size 5 _)).trans (Only.setCell _ w.heap.size 6 _)).trans (Only.setCell _ w.heap.size 7 _)
    have RR := RF.rangeG
    have NF := N.trans (OF.below (B := w.heap.size) (Nat.le_refl _))
    clear RF OF
    go_wp2
    exact bodyPost_ret (v := .agg #[.bool false, .slice none 0 0, .slice none 0 0, .int .i64 0, .int .i64 0, .string ⟨#[]⟩, .string ⟨#[]⟩, .int .i64 0]) (results_cellG Try.results15 _ _ w.heap.size _ dR rfl RR hdR hrowR iSr) rfl ⟨by rw [DG.out]; exact NewDE.zero _ _, NF⟩
end Go.Proofs.Ytcljoaknaegpmaa

/-
  The laws' helpers on a StateResult: held against each other, marked, marks asked for (written by gens/tsr.py).
-/
namespace Go.Proofs.Ytcljoaknaegpmaa
open Go Go.RowKit

set_option maxRecDepth 100000 in
set_option maxHeartbeats 2000000 in
theorem eqStateResult_same (w : World) (gd : Bool) (md li : Int) (ho pr : ByteArray) (ea : Int) (g g2 : Nat) (a a2 : Option Addr) (c c2 : Nat) (xs : List Int) (h1 : Rd w g a .u8 xs) (h2 : Rd w g2 a2 .u8 xs) (hn : xs.length ≤ 1048576) (g' g2' : Nat) (a' a2' : Option Addr) (c' c2' : Nat) (ys : List Int) (h1' : Rd w g' a' .u8 ys) (h2' : Rd w g2' a2' .u8 ys) (hn' : ys.length ≤ 1048576) :
    Calls Try.prog 17 #[.agg #[.bool gd, .slice a xs.length c, .slice a' ys.length c', .int .i64 md, .int .i64 li, .string ho, .string pr, .int .i64 ea], .agg #[.bool gd, .slice a2 xs.length c2, .slice a2' ys.length c2', .int .i64 md, .int .i64 li, .string ho, .string pr, .int .i64 ea]] w fun e w' => e = .returned (.bool true) ∧ Below w.heap.size w w' := by
  have n1 : Below w.heap.size w (w.alloc (.cells #[.bool gd, .slice a xs.length c, .slice a' ys.length c', .int .i64 md, .int .i64 li, .string ho, .string pr, .int .i64 ea] 36)) := (Below.refl _ _).alloc (Nat.le_refl _) _
  have n2 : Below (w.alloc (.cells #[.bool gd, .slice a xs.length c, .slice a' ys.length c', .int .i64 md, .int .i64 li, .string ho, .string pr, .int .i64 ea] 36)).heap.size (w.alloc (.cells #[.bool gd, .slice a xs.length c, .slice a' ys.length c', .int .i64 md, .int .i64 li, .string ho, .string pr, .int .i64 ea] 36)) ((w.alloc (.cells #[.bool gd, .slice a xs.length c, .slice a' ys.length c', .int .i64 md, .int .i64 li, .string ho, .string pr, .int .i64 ea] 36)).alloc (.cells #[.bool gd, .slice a2 xs.length c2, .slice a2' ys.length c2', .int .i64 md, .int .i64 li, .string ho, .string pr, .int .i64 ea] 36)) := (Below.refl _ _).alloc (Nat.le_refl _) _
  have P0 : RwC (w.alloc (.cells #[.bool gd, .slice a xs.length c, .slice a' ys.length c', .int .i64 md, .int .i64 li, .string ho, .string pr, .int .i64 ea] 36)) w.heap.size [.bool gd, .slice a xs.length c, .slice a' ys.length c', .int .i64 md, .int .i64 li, .string ho, .string pr, .int .i64 ea] 36 := RwC.new w _ _
  have P1 : RwC ((w.alloc (.cells #[.bool gd, .slice a xs.length c, .slice a' ys.length c', .int .i64 md, .int .i64 li, .string ho, .string pr, .int .i64 ea] 36)).alloc (.cells #[.bool gd, .slice a2 xs.length c2, .slice a2' ys.length c2', .int .i64 md, .int .i64 li, .string ho, .string pr, .int .i64 ea] 36)) (w.heap.size + 1) [.bool gd, .slice a2 xs.length c2, .slice a2' ys.length c2', .int .i64 md, .int .i64 li, .string ho, .string pr, .int .i64 ea] 36 := by have := RwC.new (w.alloc (.cells #[.bool gd, .slice a xs.length c, .slice a' ys.length c', .int .i64 md, .int .i64 li, .string ho, .string pr, .int .i64 ea] 36)) [.bool gd, .slice a2 xs.length c2, .slice a2' ys.length c2', .int .i64 md, .int .i64 li, .string ho, .string pr, .int .i64 ea] 36; simpa using this
  have N := nxt n1 n2
  replace P0 := P0.up n2
  have E := hide (eqTicketState_same ((w.alloc (.cells #[.bool gd, .slice a xs.length c, .slice a' ys.length c', .int .i64 md, .int .i64 li, .string ho, .string pr, .int .i64 ea] 36)).alloc (.cells #[.bool gd, .slice a2 xs.length c2, .slice a2' ys.length c2', .int .i64 md, .int .i64 li, .string ho, .string pr, .int .i64 ea] 36)) md li ho pr ea g g2 a a2 c c2 xs (h1.up N) (h2.up N) hn g' g2' a' a2' c' c2' ys (h1'.up N) (h2'.up N) hn')
  have p0 : ((w.alloc (.cells #[.bool gd, .slice a xs.length c, .slice a' ys.length c', .int .i64 md, .int .i64 li, .string ho, .string pr, .int .i64 ea] 36)).alloc (.cells #[.bool gd, .slice a2 xs.length c2, .slice a2' ys.length c2', .int .i64 md, .int .i64 li, .string ho, .string pr, .int .i64 ea] 36)).cell? ⟨w.heap.size, 0, none⟩ = some (.bool gd) := P0.cell 0
  have r0 : ((w.alloc (.cells #[.bool gd, .slice a xs.length c, .slice a' ys.length c', .int .i64 md, .int .i64 li, .string ho, .string pr, .int .i64 ea] 36)).alloc (.cells #[.bool gd, .slice a2 xs.length c2, .slice a2' ys.length c2', .int .i64 md, .int .i64 li, .string ho, .string pr, .int .i64 ea] 36)).cell? ⟨w.heap.size + 1, 0, none⟩ = some (.bool gd) := P1.cell 0
  have p1 : ((w.alloc (.cells #[.bool gd, .slice a xs.length c, .slice a' ys.length c', .int .i64 md, .int .i64 li, .string ho, .string pr, .int .i64 ea] 36)).alloc (.cells #[.bool gd, .slice a2 xs.length c2, .slice a2' ys.length c2', .int .i64 md, .int .i64 li, .string ho, .string pr, .int .i64 ea] 36)).cell? ⟨w.heap.size, 1, none⟩ = some (.slice a xs.length c) := P0.cell 1
  have r1 : ((w.alloc (.cells #[.bool gd, .slice a xs.length c, .slice a' ys.length c', .int .i64 md, .int .i64 li, .string ho, .string pr, .int .i64 ea] 36)).alloc (.cells #[.bool gd, .slice a2 xs.length c2, .slice a2' ys.length c2', .int .i64 md, .int .i64 li, .string ho, .string pr, .int .i64 ea] 36)).cell? ⟨w.heap.size + 1, 1, none⟩ = some (.slice a2 xs.length c2) := P1.cell 1
  have p2 : ((w.alloc (.cells #[.bool gd, .slice a xs.length c, .slice a' ys.length c', .int .i64 md, .int .i64 li, .string ho, .string pr, .int .i64 ea] 36)).alloc (.cells #[.bool gd, .slice a2 xs.length c2, .slice a2' ys.length c2', .int .i64 md, .int .i64 li, .string ho, .string pr, .int .i64 ea] 36)).cell? ⟨w.heap.size, 2, none⟩ = some (.slice a' ys.length c') := P0.cell 2
  have r2 : ((w.alloc (.cells #[.bool gd, .slice a xs.length c, .slice a' ys.length c', .int .i64 md, .int .i64 li, .string ho, .string pr, .int .i64 ea] 36)).alloc (.cells #[.bool gd, .slice a2 xs.length c2, .slice a2' ys.length c2', .int .i64 md, .int .i64 li, .string ho, .string pr, .int .i64 ea] 36)).cell? ⟨w.heap.size + 1, 2, none⟩ = some (.slice a2' ys.length c2') := P1.cell 2
  have p3 : ((w.alloc (.cells #[.bool gd, .slice a xs.length c, .slice a' ys.length c', .int .i64 md, .int .i64 li, .string ho, .string pr, .int .i64 ea] 36)).alloc (.cells #[.bool gd, .slice a2 xs.length c2, .slice a2' ys.length c2', .int .i64 md, .int .i64 li, .string ho, .string pr, .int .i64 ea] 36)).cell? ⟨w.heap.size, 3, none⟩ = some (.int .i64 md) := P0.cell 3
  have r3 : ((w.alloc (.cells #[.bool gd, .slice a xs.length c, .slice a' ys.length c', .int .i64 md, .int .i64 li, .string ho, .string pr, .int .i64 ea] 36)).alloc (.cells #[.bool gd, .slice a2 xs.length c2, .slice a2' ys.length c2', .int .i64 md, .int .i64 li, .string ho, .string pr, .int .i64 ea] 36)).cell? ⟨w.heap.size + 1, 3, none⟩ = some (.int .i64 md) := P1.cell 3
  have p4 : ((w.alloc (.cells #[.bool gd, .slice a xs.length c, .slice a' ys.length c', .int .i64 md, .int .i64 li, .string ho, .string pr, .int .i64 ea] 36)).alloc (.cells #[.bool gd, .slice a2 xs.length c2, .slice a2' ys.length c2', .int .i64 md, .int .i64 li, .string ho, .string pr, .int .i64 ea] 36)).cell? ⟨w.heap.size, 4, none⟩ = some (.int .i64 li) := P0.cell 4
  have r4 : ((w.alloc (.cells #[.bool gd, .slice a xs.length c, .slice a' ys.length c', .int .i64 md, .int .i64 li, .string ho, .string pr, .int .i64 ea] 36)).alloc (.cells #[.bool gd, .slice a2 xs.length c2, .slice a2' ys.length c2', .int .i64 md, .int .i64 li, .string ho, .string pr, .int .i64 ea] 36)).cell? ⟨w.heap.size + 1, 4, none⟩ = some (.int .i64 li) := P1.cell 4
  have p5 : ((w.alloc (.cells #[.bool gd, .slice a xs.length c, .slice a' ys.length c', .int .i64 md, .int .i64 li, .string ho, .string pr, .int .i64 ea] 36)).alloc (.cells #[.bool gd, .slice a2 xs.length c2, .slice a2' ys.length c2', .int .i64 md, .int .i64 li, .string ho, .string pr, .int .i64 ea] 36)).cell? ⟨w.heap.size, 5, none⟩ = some (.string ho) := P0.cell 5
  have r5 : ((w.alloc (.cells #[.bool gd, .slice a xs.length c, .slice a' ys.length c', .int .i64 md, .int .i64 li, .string ho, .string pr, .int .i64 ea] 36)).alloc (.cells #[.bool gd, .slice a2 xs.length c2, .slice a2' ys.length c2', .int .i64 md, .int .i64 li, .string ho, .string pr, .int .i64 ea] 36)).cell? ⟨w.heap.size + 1, 5, none⟩ = some (.string ho) := P1.cell 5
  have p6 : ((w.alloc (.cells #[.bool gd, .slice a xs.length c, .slice a' ys.length c', .int .i64 md, .int .i64 li, .string ho, .string pr, .int .i64 ea] 36)).alloc (.cells #[.bool gd, .slice a2 xs.length c2, .slice a2' ys.length c2', .int .i64 md, .int .i64 li, .string ho, .string pr, .int .i64 ea] 36)).cell? ⟨w.heap.size, 6, none⟩ = some (.string pr) := P0.cell 6
  have r6 : ((w.alloc (.cells #[.bool gd, .slice a xs.length c, .slice a' ys.length c', .int .i64 md, .int .i64 li, .string ho, .string pr, .int .i64 ea] 36)).alloc (.cells #[.bool gd, .slice a2 xs.length c2, .slice a2' ys.length c2', .int .i64 md, .int .i64 li, .string ho, .string pr, .int .i64 ea] 36)).cell? ⟨w.heap.size + 1, 6, none⟩ = some (.string pr) := P1.cell 6
  have p7 : ((w.alloc (.cells #[.bool gd, .slice a xs.length c, .slice a' ys.length c', .int .i64 md, .int .i64 li, .string ho, .string pr, .int .i64 ea] 36)).alloc (.cells #[.bool gd, .slice a2 xs.length c2, .slice a2' ys.length c2', .int .i64 md, .int .i64 li, .string ho, .string pr, .int .i64 ea] 36)).cell? ⟨w.heap.size, 7, none⟩ = some (.int .i64 ea) := P0.cell 7
  have r7 : ((w.alloc (.cells #[.bool gd, .slice a xs.length c, .slice a' ys.length c', .int .i64 md, .int .i64 li, .string ho, .string pr, .int .i64 ea] 36)).alloc (.cells #[.bool gd, .slice a2 xs.length c2, .slice a2' ys.length c2', .int .i64 md, .int .i64 li, .string ho, .string pr, .int .i64 ea] 36)).cell? ⟨w.heap.size + 1, 7, none⟩ = some (.int .i64 ea) := P1.cell 7
  clear n1 n2 h1 h2 h1' h2'
  go_enter Try.func17, Try.ntmps17
  go_wp2_with fail
  refine E.out.mono ?_
  rintro e w2 ⟨rfl, m⟩
  go_wp2
  go_ret
  exact ⟨rfl, nxt N m⟩
set_option maxRecDepth 100000 in
set_option maxHeartbeats 1000000 in
theorem markStateResult_any (w : World) (gd : Bool) (md li : Int) (ho pr : ByteArray) (ea : Int) (g : Nat) (a : Option Addr) (c : Nat) (xs : List Int) (g' : Nat) (a' : Option Addr) (c' : Nat) (ys : List Int) (m : Int) (ha : Own w g a .u8 xs) (ha' : Own w g' a' .u8 ys) (hn : xs.length ≤ 1048576) (hn' : ys.length ≤ 1048576) (hne : g ≠ g' ∧ g < w.heap.size ∧ g' < w.heap.size) (k0 : 0 ≤ m) (k1 : m ≤ 1000000000) :
    Calls Try.prog 18 #[.agg #[.bool gd, .slice a xs.length c, .slice a' ys.length c', .int .i64 md, .int .i64 li, .string ho, .string pr, .int .i64 ea], .int .i64 m] w fun e w' => e = .returned (.int .i64 (m + (xs.length : Int) + (ys.length : Int))) ∧ Own w' g a .u8 (marks m xs.length) ∧ Own w' g' a' .u8 (marks (m + (xs.length : Int)) ys.length) ∧ Tch [g, g'] w w' := by
  have n1 : Below w.heap.size w (w.alloc (.cells #[.bool gd, .slice a xs.length c, .slice a' ys.length c', .int .i64 md, .int .i64 li, .string ho, .string pr, .int .i64 ea] 36)) := (Below.refl _ _).alloc (Nat.le_refl _) _
  have P0 : RwC (w.alloc (.cells #[.bool gd, .slice a xs.length c, .slice a' ys.length c', .int .i64 md, .int .i64 li, .string ho, .string pr, .int .i64 ea] 36)) w.heap.size [.bool gd, .slice a xs.length c, .slice a' ys.length c', .int .i64 md, .int .i64 li, .string ho, .string pr, .int .i64 ea] 36 := RwC.new w _ _
  have zs := n1.size
  have E := hide (markTicketState_any (w.alloc (.cells #[.bool gd, .slice a xs.length c, .slice a' ys.length c', .int .i64 md, .int .i64 li, .string ho, .string pr, .int .i64 ea] 36)) md li ho pr ea g a c xs g' a' c' ys m (ha.up n1) (ha'.up n1) hn hn' ⟨hne.1, by omega, by omega⟩ k0 k1)
  have p1 : (w.alloc (.cells #[.bool gd, .slice a xs.length c, .slice a' ys.length c', .int .i64 md, .int .i64 li, .string ho, .string pr, .int .i64 ea] 36)).cell? ⟨w.heap.size, 1, none⟩ = some (.slice a xs.length c) := P0.cell 1
  have p2 : (w.alloc (.cells #[.bool gd, .slice a xs.length c, .slice a' ys.length c', .int .i64 md, .int .i64 li, .string ho, .string pr, .int .i64 ea] 36)).cell? ⟨w.heap.size, 2, none⟩ = some (.slice a' ys.length c') := P0.cell 2
  have p3 : (w.alloc (.cells #[.bool gd, .slice a xs.length c, .slice a' ys.length c', .int .i64 md, .int .i64 li, .string ho, .string pr, .int .i64 ea] 36)).cell? ⟨w.heap.size, 3, none⟩ = some (.int .i64 md) := P0.cell 3
  have p4 : (w.alloc (.cells #[.bool gd, .slice a xs.length c, .slice a' ys.length c', .int .i64 md, .int .i64 li, .string ho, .string pr, .int .i64 ea] 36)).cell? ⟨w.heap.size, 4, none⟩ = some (.int .i64 li) := P0.cell 4
  have p5 : (w.alloc (.cells #[.bool gd, .slice a xs.length c, .slice a' ys.length c', .int .i64 md, .int .i64 li, .string ho, .string pr, .int .i64 ea] 36)).cell? ⟨w.heap.size, 5, none⟩ = some (.string ho) := P0.cell 5
  have p6 : (w.alloc (.cells #[.bool gd, .slice a xs.length c, .slice a' ys.length c', .int .i64 md, .int .i64 li, .string ho, .string pr, .int .i64 ea] 36)).cell? ⟨w.heap.size, 6, none⟩ = some (.string pr) := P0.cell 6
  have p7 : (w.alloc (.cells #[.bool gd, .slice a xs.length c, .slice a' ys.length c', .int .i64 md, .int .i64 li, .string ho, .string pr, .int .i64 ea] 36)).cell? ⟨w.heap.size, 7, none⟩ = some (.int .i64 ea) := P0.cell 7
  clear ha ha' hne zs
  go_enter Try.func18, Try.ntmps18
  go_wp2_with fail
  refine E.out.mono ?_
  rintro e w2 ⟨rfl, A1, A2, T⟩
  have A1 := hide A1
  have A2 := hide A2
  go_wp2
  go_ret
  exact ⟨rfl, A1.out, A2.out, ((Tch.of_below (S := []) n1).trans T).mono (by simp)⟩
set_option maxRecDepth 100000 in
set_option maxHeartbeats 1000000 in
theorem heldStateResult_any (w : World) (gd : Bool) (md li : Int) (ho pr : ByteArray) (ea : Int) (g : Nat) (a : Option Addr) (c n : Nat) (g' : Nat) (a' : Option Addr) (c' n' : Nat) (m : Int) (ha : Rd w g a .u8 (marks m n)) (ha' : Rd w g' a' .u8 (marks (m + (n : Int)) n')) (hn : n ≤ 1048576) (hn' : n' ≤ 1048576) (k0 : 0 ≤ m) (k1 : m ≤ 1000000000) :
    Calls Try.prog 19 #[.agg #[.bool gd, .slice a n c, .slice a' n' c', .int .i64 md, .int .i64 li, .string ho, .string pr, .int .i64 ea], .int .i64 m] w fun e w' => e = .returned (.int .i64 (m + (n : Int) + (n' : Int))) ∧ Below w.heap.size w w' := by
  have n1 : Below w.heap.size w (w.alloc (.cells #[.bool gd, .slice a n c, .slice a' n' c', .int .i64 md, .int .i64 li, .string ho, .string pr, .int .i64 ea] 36)) := (Below.refl _ _).alloc (Nat.le_refl _) _
  have P0 : RwC (w.alloc (.cells #[.bool gd, .slice a n c, .slice a' n' c', .int .i64 md, .int .i64 li, .string ho, .string pr, .int .i64 ea] 36)) w.heap.size [.bool gd, .slice a n c, .slice a' n' c', .int .i64 md, .int .i64 li, .string ho, .string pr, .int .i64 ea] 36 := RwC.new w _ _
  have E := hide (heldTicketState_any (w.alloc (.cells #[.bool gd, .slice a n c, .slice a' n' c', .int .i64 md, .int .i64 li, .string ho, .string pr, .int .i64 ea] 36)) md li ho pr ea g a c n g' a' c' n' m (ha.up n1) (ha'.up n1) hn hn' k0 k1)
  have t2 : decide (m + (n : Int) + (n' : Int) < 0) = false := by simp; omega
  have p1 : (w.alloc (.cells #[.bool gd, .slice a n c, .slice a' n' c', .int .i64 md, .int .i64 li, .string ho, .string pr, .int .i64 ea] 36)).cell? ⟨w.heap.size, 1, none⟩ = some (.slice a n c) := P0.cell 1
  have p2 : (w.alloc (.cells #[.bool gd, .slice a n c, .slice a' n' c', .int .i64 md, .int .i64 li, .string ho, .string pr, .int .i64 ea] 36)).cell? ⟨w.heap.size, 2, none⟩ = some (.slice a' n' c') := P0.cell 2
  have p3 : (w.alloc (.cells #[.bool gd, .slice a n c, .slice a' n' c', .int .i64 md, .int .i64 li, .string ho, .string pr, .int .i64 ea] 36)).cell? ⟨w.heap.size, 3, none⟩ = some (.int .i64 md) := P0.cell 3
  have p4 : (w.alloc (.cells #[.bool gd, .slice a n c, .slice a' n' c', .int .i64 md, .int .i64 li, .string ho, .string pr, .int .i64 ea] 36)).cell? ⟨w.heap.size, 4, none⟩ = some (.int .i64 li) := P0.cell 4
  have p5 : (w.alloc (.cells #[.bool gd, .slice a n c, .slice a' n' c', .int .i64 md, .int .i64 li, .string ho, .string pr, .int .i64 ea] 36)).cell? ⟨w.heap.size, 5, none⟩ = some (.string ho) := P0.cell 5
  have p6 : (w.alloc (.cells #[.bool gd, .slice a n c, .slice a' n' c', .int .i64 md, .int .i64 li, .string ho, .string pr, .int .i64 ea] 36)).cell? ⟨w.heap.size, 6, none⟩ = some (.string pr) := P0.cell 6
  have p7 : (w.alloc (.cells #[.bool gd, .slice a n c, .slice a' n' c', .int .i64 md, .int .i64 li, .string ho, .string pr, .int .i64 ea] 36)).cell? ⟨w.heap.size, 7, none⟩ = some (.int .i64 ea) := P0.cell 7
  clear ha ha'
  go_enter Try.func19, Try.ntmps19
  go_wp2_with fail
  refine E.out.mono ?_
  rintro e w2 ⟨rfl, m2⟩
  go_wp2
  go_ret
  exact ⟨rfl, nxt n1 m2⟩
end Go.Proofs.Ytcljoaknaegpmaa

/-
  A StateResult's lists are short. No Go.
-/
namespace Go.Proofs.Ytcljoaknaegpmaa
open Go Go.RowKit

theorem rX_len (b : List Int) : (rX b).length ≤ 1048576 := by
  unfold rX
  split
  · rw [dX_len]; decide
  · decide
theorem rY_len (b : List Int) : (rY b).length ≤ 1048576 := by
  unfold rY
  split
  · rw [dY_len]; decide
  · decide
end Go.Proofs.Ytcljoaknaegpmaa

/-
  The law of OpenTicket (written by gens/lsr.py).
-/
namespace Go.Proofs.Ytcljoaknaegpmaa
open Go Go.RowKit

set_option maxHeartbeats 8000000 in
theorem otk_law (w : World) (g0 : Nat) (a0 : Option Addr) (c0 : Nat) (X0 : List Int) (hX0 : Rd w g0 a0 .u8 X0) (bX0 : Byt X0) (g1 : Nat) (a1 : Option Addr) (c1 : Nat) (X1 : List Int) (hX1 : Rd w g1 a1 .u8 X1) (bX1 : Byt X1) :
    Calls Try.prog 4 #[.slice a0 X0.length c0, .slice a1 X1.length c1] w fun e w' => e = .returned (.bool true) ∧ Below w.heap.size w w' := by
  by_cases q0 : X0.length ≤ 1048576
  · have u0 : decide ((1048576 : Int) < (X0.length : Int)) = false := by simp; omega
    by_cases q1 : X1.length ≤ 1048576
    · have u1 : decide ((1048576 : Int) < (X1.length : Int)) = false := by simp; omega
      have SP : ∀ W g a c, Rd W g a .u8 X0 → (a = none → c = 0) → X0.length ≤ c → ∀ g' a' c', Rd W g' a' .u8 X1 → (a' = none → c' = 0) → X1.length ≤ c' → Calls Try.prog 15 #[.slice a X0.length c, .slice a' X1.length c'] W fun e w' => NewRE W.heap.size w' e (dsB (otP X0 X1)) (rX (otP X0 X1)) (rY (otP X0 X1)) (rM (otP X0 X1)) (rL (otP X0 X1)) ⟨⟨rH (otP X0 X1)⟩⟩ ⟨⟨rP (otP X0 X1)⟩⟩ (rE (otP X0 X1)) ∧ Below W.heap.size W w' := fun W g a c h _ k g' a' c' h' _ k' => specOt_any W g a c X0 h bX0 k g' a' c' X1 h' bX1 k' q1
      have IM : ∀ W g a c, Rd W g a .u8 X0 → (a = none → c = 0) → X0.length ≤ c → ∀ g' a' c', Rd W g' a' .u8 X1 → (a' = none → c' = 0) → X1.length ≤ c' → Calls Try.prog 16 #[.slice a X0.length c, .slice a' X1.length c'] W fun e w' => NewRE W.heap.size w' e (dsB (otP X0 X1)) (rX (otP X0 X1)) (rY (otP X0 X1)) (rM (otP X0 X1)) (rL (otP X0 X1)) ⟨⟨rH (otP X0 X1)⟩⟩ ⟨⟨rP (otP X0 X1)⟩⟩ (rE (otP X0 X1)) ∧ Below W.heap.size W w' := fun W g a c h _ k g' a' c' h' _ k' => implOt_any W g a c X0 h bX0 k g' a' c' X1 h' bX1 k' q1
      have hx := rX_len (otP X0 X1)
      have hy := rY_len (otP X0 X1)
      generalize otP X0 X1 = b at *
      generalize dsB b = gd at *
      generalize rX b = xs at *
      generalize rY b = ys at *
      generalize rM b = md at *
      generalize rL b = li at *
      generalize (ByteArray.mk ⟨rH b⟩) = ho at *
      generalize (ByteArray.mk ⟨rP b⟩) = pr at *
      generalize rE b = ea at *
      go_enter Try.func4, Try.ntmps4
      have N : Below w.heap.size w w := Below.refl _ _
      go_wp2_with fail
      refine (toByteS_any w g0 a0 c0 X0 (hX0.up N) q0).mono ?_
      rintro e w1 ⟨rfl, mB0, m1⟩
      have zm1 := m1.size
      replace N := nxt N m1
      clear m1
      obtain ⟨m0, em0⟩ : ∃ b, b = w.heap.size := ⟨_, rfl⟩
      rw [← em0] at mB0 ⊢
      have lmB0 := mB0.lt
      have ymB0 : w.heap.size ≤ m0 := Nat.le_of_eq em0.symm
      clear em0
      go_wp2_with fail
      refine (toByteS_any w1 g1 a1 c1 X1 (hX1.up N) q1).mono ?_
      rintro e w2 ⟨rfl, mB1, m2⟩
      have zm2 := m2.size
      replace mB0 := mB0.up m2
      replace N := nxt N m2
      clear m2
      obtain ⟨m1, em1⟩ : ∃ b, b = w1.heap.size := ⟨_, rfl⟩
      rw [← em1] at mB1 ⊢
      have lmB1 := mB1.lt
      have ymB1 : w1.heap.size ≤ m1 := Nat.le_of_eq em1.symm
      clear em1
      go_wp2_with fail
      refine (SP w2 _ _ _ mB0.own0.rd (by simp) (Nat.le_refl _) _ _ _ mB1.own0.rd (by simp) (Nat.le_refl _)).mono ?_
      rintro e w3 ⟨EoS, m3⟩
      have zm3 := m3.size
      replace mB0 := mB0.up m3
      replace mB1 := mB1.up m3
      replace N := nxt N m3
      clear m3
      obtain ⟨aoS, coS, goS, aoS', coS', goS', rfl, oS, oS', neoS, koS, koS', doS⟩ := EoS.pick m0 m1 (by omega) (by omega) (by omega)
      clear EoS
      clear mB0 mB1
      have bS : RwC (w3.alloc (.cells #[.bool gd, .slice aoS xs.length coS, .slice aoS' ys.length coS', .int .i64 md, .int .i64 li, .string ho, .string pr, .int .i64 ea] 36)) w3.heap.size [.bool gd, .slice aoS xs.length coS, .slice aoS' ys.length coS', .int .i64 md, .int .i64 li, .string ho, .string pr, .int .i64 ea] 36 := RwC.new w3 _ _
      have m4 : Below w3.heap.size w3 (w3.alloc (.cells #[.bool gd, .slice aoS xs.length coS, .slice aoS' ys.length coS', .int .i64 md, .int .i64 li, .string ho, .string pr, .int .i64 ea] 36)) := (Below.refl _ _).alloc (Nat.le_refl _) _
      have zm4 := m4.size
      obtain ⟨pbS, ebS⟩ : ∃ b, b = w3.heap.size := ⟨_, rfl⟩
      have ybS : w3.heap.size ≤ pbS := Nat.le_of_eq ebS.symm
      rw [← ebS] at bS
      have lbS := bS.lt
      replace oS := oS.up m4
      replace oS' := oS'.up m4
      replace N := nxt N m4
      clear m4
      go_wp2_with fail
      rw [← ebS]
      clear ebS
      generalize w3.alloc (.cells #[.bool gd, .slice aoS xs.length coS, .slice aoS' ys.length coS', .int .i64 md, .int .i64 li, .string ho, .string pr, .int .i64 ea] 36) = w4 at *
      refine (toByteS_any w4 g0 a0 c0 X0 (hX0.up N) q0).mono ?_
      rintro e w5 ⟨rfl, xB0, m5⟩
      have zm5 := m5.size
      replace oS := oS.up m5
      replace oS' := oS'.up m5
      replace bS := bS.up m5
      replace N := nxt N m5
      clear m5
      obtain ⟨x0, ex0⟩ : ∃ b, b = w4.heap.size := ⟨_, rfl⟩
      rw [← ex0] at xB0 ⊢
      have lxB0 := xB0.lt
      have yxB0 : w4.heap.size ≤ x0 := Nat.le_of_eq ex0.symm
      clear ex0
      go_wp2_with fail
      refine (toByteS_any w5 g1 a1 c1 X1 (hX1.up N) q1).mono ?_
      rintro e w6 ⟨rfl, xB1, m6⟩
      have zm6 := m6.size
      replace oS := oS.up m6
      replace oS' := oS'.up m6
      replace bS := bS.up m6
      replace xB0 := xB0.up m6
      replace N := nxt N m6
      clear m6
      obtain ⟨x1, ex1⟩ : ∃ b, b = w5.heap.size := ⟨_, rfl⟩
      rw [← ex1] at xB1 ⊢
      have lxB1 := xB1.lt
      have yxB1 : w5.heap.size ≤ x1 := Nat.le_of_eq ex1.symm
      clear ex1
      go_wp2_with fail
      refine (IM w6 _ _ _ xB0.own0.rd (by simp) (Nat.le_refl _) _ _ _ xB1.own0.rd (by simp) (Nat.le_refl _)).mono ?_
      rintro e w7 ⟨EoI, m7⟩
      have zm7 := m7.size
      replace oS := oS.up m7
      replace oS' := oS'.up m7
      replace bS := bS.up m7
      replace xB0 := xB0.up m7
      replace xB1 := xB1.up m7
      replace N := nxt N m7
      clear m7
      obtain ⟨aoI, coI, goI, aoI', coI', goI', rfl, oI, oI', neoI, koI, koI', doI⟩ := EoI.pick m0 m1 (by omega) (by omega) (by omega)
      clear EoI
      have bI : RwC (w7.alloc (.cells #[.bool gd, .slice aoI xs.length coI, .slice aoI' ys.length coI', .int .i64 md, .int .i64 li, .string ho, .string pr, .int .i64 ea] 36)) w7.heap.size [.bool gd, .slice aoI xs.length coI, .slice aoI' ys.length coI', .int .i64 md, .int .i64 li, .string ho, .string pr, .int .i64 ea] 36 := RwC.new w7 _ _
      have m8 : Below w7.heap.size w7 (w7.alloc (.cells #[.bool gd, .slice aoI xs.length coI, .slice aoI' ys.length coI', .int .i64 md, .int .i64 li, .string ho, .string pr, .int .i64 ea] 36)) := (Below.refl _ _).alloc (Nat.le_refl _) _
      have zm8 := m8.size
      obtain ⟨pbI, ebI⟩ : ∃ b, b = w7.heap.size := ⟨_, rfl⟩
      have ybI : w7.heap.size ≤ pbI := Nat.le_of_eq ebI.symm
      rw [← ebI] at bI
      have lbI := bI.lt
      replace oS := oS.up m8
      replace oS' := oS'.up m8
      replace bS := bS.up m8
      replace xB0 := xB0.up m8
      replace xB1 := xB1.up m8
      replace oI := oI.up m8
      replace oI' := oI'.up m8
      replace N := nxt N m8
      clear m8
      have bIc0 : (w7.alloc (.cells #[.bool gd, .slice aoI xs.length coI, .slice aoI' ys.length coI', .int .i64 md, .int .i64 li, .string ho, .string pr, .int .i64 ea] 36)).cell? ⟨pbI, 0, none⟩ = some (.bool gd) := bI.cell 0
      have bIc1 : (w7.alloc (.cells #[.bool gd, .slice aoI xs.length coI, .slice aoI' ys.length coI', .int .i64 md, .int .i64 li, .string ho, .string pr, .int .i64 ea] 36)).cell? ⟨pbI, 1, none⟩ = some (.slice aoI xs.length coI) := bI.cell 1
      have bIc2 : (w7.alloc (.cells #[.bool gd, .slice aoI xs.length coI, .slice aoI' ys.length coI', .int .i64 md, .int .i64 li, .string ho, .string pr, .int .i64 ea] 36)).cell? ⟨pbI, 2, none⟩ = some (.slice aoI' ys.length coI') := bI.cell 2
      have bIc3 : (w7.alloc (.cells #[.bool gd, .slice aoI xs.length coI, .slice aoI' ys.length coI', .int .i64 md, .int .i64 li, .string ho, .string pr, .int .i64 ea] 36)).cell? ⟨pbI, 3, none⟩ = some (.int .i64 md) := bI.cell 3
      have bIc4 : (w7.alloc (.cells #[.bool gd, .slice aoI xs.length coI, .slice aoI' ys.length coI', .int .i64 md, .int .i64 li, .string ho, .string pr, .int .i64 ea] 36)).cell? ⟨pbI, 4, none⟩ = some (.int .i64 li) := bI.cell 4
      have bIc5 : (w7.alloc (.cells #[.bool gd, .slice aoI xs.length coI, .slice aoI' ys.length coI', .int .i64 md, .int .i64 li, .string ho, .string pr, .int .i64 ea] 36)).cell? ⟨pbI, 5, none⟩ = some (.string ho) := bI.cell 5
      have bIc6 : (w7.alloc (.cells #[.bool gd, .slice aoI xs.length coI, .slice aoI' ys.length coI', .int .i64 md, .int .i64 li, .string ho, .string pr, .int .i64 ea] 36)).cell? ⟨pbI, 6, none⟩ = some (.string pr) := bI.cell 6
      have bIc7 : (w7.alloc (.cells #[.bool gd, .slice aoI xs.length coI, .slice aoI' ys.length coI', .int .i64 md, .int .i64 li, .string ho, .string pr, .int .i64 ea] 36)).cell? ⟨pbI, 7, none⟩ = some (.int .i64 ea) := bI.cell 7
      have bSc0 : (w7.alloc (.cells #[.bool gd, .slice aoI xs.length coI, .slice aoI' ys.length coI', .int .i64 md, .int .i64 li, .string ho, .string pr, .int .i64 ea] 36)).cell? ⟨pbS, 0, none⟩ = some (.bool gd) := bS.cell 0
      have bSc1 : (w7.alloc (.cells #[.bool gd, .slice aoI xs.length coI, .slice aoI' ys.length coI', .int .i64 md, .int .i64 li, .string ho, .string pr, .int .i64 ea] 36)).cell? ⟨pbS, 1, none⟩ = some (.slice aoS xs.length coS) := bS.cell 1
      have bSc2 : (w7.alloc (.cells #[.bool gd, .slice aoI xs.length coI, .slice aoI' ys.length coI', .int .i64 md, .int .i64 li, .string ho, .string pr, .int .i64 ea] 36)).cell? ⟨pbS, 2, none⟩ = some (.slice aoS' ys.length coS') := bS.cell 2
      have bSc3 : (w7.alloc (.cells #[.bool gd, .slice aoI xs.length coI, .slice aoI' ys.length coI', .int .i64 md, .int .i64 li, .string ho, .string pr, .int .i64 ea] 36)).cell? ⟨pbS, 3, none⟩ = some (.int .i64 md) := bS.cell 3
      have bSc4 : (w7.alloc (.cells #[.bool gd, .slice aoI xs.length coI, .slice aoI' ys.length coI', .int .i64 md, .int .i64 li, .string ho, .string pr, .int .i64 ea] 36)).cell? ⟨pbS, 4, none⟩ = some (.int .i64 li) := bS.cell 4
      have bSc5 : (w7.alloc (.cells #[.bool gd, .slice aoI xs.length coI, .slice aoI' ys.length coI', .int .i64 md, .int .i64 li, .string ho, .string pr, .int .i64 ea] 36)).cell? ⟨pbS, 5, none⟩ = some (.string ho) := bS.cell 5
      have bSc6 : (w7.alloc (.cells #[.bool gd, .slice aoI xs.length coI, .slice aoI' ys.length coI', .int .i64 md, .int .i64 li, .string ho, .string pr, .int .i64 ea] 36)).cell? ⟨pbS, 6, none⟩ = some (.string pr) := bS.cell 6
      have bSc7 : (w7.alloc (.cells #[.bool gd, .slice aoI xs.length coI, .slice aoI' ys.length coI', .int .i64 md, .int .i64 li, .string ho, .string pr, .int .i64 ea] 36)).cell? ⟨pbS, 7, none⟩ = some (.int .i64 ea) := bS.cell 7
      go_wp2_with fail
      rw [← ebI]
      clear ebI
      generalize w7.alloc (.cells #[.bool gd, .slice aoI xs.length coI, .slice aoI' ys.length coI', .int .i64 md, .int .i64 li, .string ho, .string pr, .int .i64 ea] 36) = w8 at *
      refine (eqStateResult_same w8 gd md li ho pr ea _ _ _ _ _ _ xs oI.rd oS.rd hx _ _ _ _ _ _ ys oI'.rd oS'.rd hy).mono ?_
      rintro e w9 ⟨rfl, m9⟩
      have zm9 := m9.size
      clear bIc0 bIc1 bIc2 bIc3 bIc4 bIc5 bIc6 bIc7
      clear bSc0 bSc1 bSc2 bSc3 bSc4 bSc5 bSc6 bSc7
      replace oS := oS.up m9
      replace oS' := oS'.up m9
      replace bS := bS.up m9
      replace xB0 := xB0.up m9
      replace xB1 := xB1.up m9
      replace oI := oI.up m9
      replace oI' := oI'.up m9
      replace bI := bI.up m9
      replace N := nxt N m9
      clear m9
      go_wp2_with fail
      refine (toByteS_any w9 g0 a0 c0 X0 (hX0.up N) q0).mono ?_
      rintro e w10 ⟨rfl, eB0, m10⟩
      have zm10 := m10.size
      replace oS := oS.up m10
      replace oS' := oS'.up m10
      replace bS := bS.up m10
      replace xB0 := xB0.up m10
      replace xB1 := xB1.up m10
      replace oI := oI.up m10
      replace oI' := oI'.up m10
      replace bI := bI.up m10
      replace N := nxt N m10
      clear m10
      obtain ⟨e0, ee0⟩ : ∃ b, b = w9.heap.size := ⟨_, rfl⟩
      rw [← ee0] at eB0 ⊢
      have leB0 := eB0.lt
      have yeB0 : w9.heap.size ≤ e0 := Nat.le_of_eq ee0.symm
      clear ee0
      go_wp2_with fail
      refine (eqByteS_same w10 _ _ _ _ _ _ X0 xB0.own0.rd eB0.own0.rd q0).mono ?_
      rintro e w11 ⟨rfl, m11⟩
      have zm11 := m11.size
      replace oS := oS.up m11
      replace oS' := oS'.up m11
      replace bS := bS.up m11
      replace xB0 := xB0.up m11
      replace xB1 := xB1.up m11
      replace oI := oI.up m11
      replace oI' := oI'.up m11
      replace bI := bI.up m11
      replace eB0 := eB0.up m11
      replace N := nxt N m11
      clear m11
      clear eB0
      go_wp2_with fail
      refine (toByteS_any w11 g1 a1 c1 X1 (hX1.up N) q1).mono ?_
      rintro e w12 ⟨rfl, eB1, m12⟩
      have zm12 := m12.size
      replace oS := oS.up m12
      replace oS' := oS'.up m12
      replace bS := bS.up m12
      replace xB0 := xB0.up m12
      replace xB1 := xB1.up m12
      replace oI := oI.up m12
      replace oI' := oI'.up m12
      replace bI := bI.up m12
      replace N := nxt N m12
      clear m12
      obtain ⟨e1, ee1⟩ : ∃ b, b = w11.heap.size := ⟨_, rfl⟩
      rw [← ee1] at eB1 ⊢
      have leB1 := eB1.lt
      have yeB1 : w11.heap.size ≤ e1 := Nat.le_of_eq ee1.symm
      clear ee1
      go_wp2_with fail
      refine (eqByteS_same w12 _ _ _ _ _ _ X1 xB1.own0.rd eB1.own0.rd q1).mono ?_
      rintro e w13 ⟨rfl, m13⟩
      have zm13 := m13.size
      replace oS := oS.up m13
      replace oS' := oS'.up m13
      replace bS := bS.up m13
      replace xB0 := xB0.up m13
      replace xB1 := xB1.up m13
      replace oI := oI.up m13
      replace oI' := oI'.up m13
      replace bI := bI.up m13
      replace eB1 := eB1.up m13
      replace N := nxt N m13
      clear m13
      clear eB1
      go_wp2_with fail
      refine (markByteS_any w13 _ _ _ X0 (1) xB0.own0 q0 (by omega) (by omega)).mono ?_
      rintro e w14 ⟨rfl, _, O⟩
      have O := Tch.of_only O
      clear xB0
      replace oS := oS.tch O (fun h => by simp; omega)
      replace oS' := oS'.tch O (fun h => by simp; omega)
      replace bS := bS.tch O (by simp; omega)
      replace xB1 := xB1.tch O (by simp; omega)
      replace oI := oI.tch O (fun h => by simp; omega)
      replace oI' := oI'.tch O (fun h => by simp; omega)
      replace bI := bI.tch O (by simp; omega)
      have NN := N.size
      replace N := N.trans (O.below (B := w.heap.size) (by omega) (by simp; omega))
      have zm14 := O.size
      clear O NN
      go_wp2_with fail
      refine (markByteS_any w14 _ _ _ X1 (1 + (X0.length : Int)) xB1.own0 q1 (by omega) (by omega)).mono ?_
      rintro e w15 ⟨rfl, _, O⟩
      have O := Tch.of_only O
      clear xB1
      replace oS := oS.tch O (fun h => by simp; omega)
      replace oS' := oS'.tch O (fun h => by simp; omega)
      replace bS := bS.tch O (by simp; omega)
      replace oI := oI.tch O (fun h => by simp; omega)
      replace oI' := oI'.tch O (fun h => by simp; omega)
      replace bI := bI.tch O (by simp; omega)
      have NN := N.size
      replace N := N.trans (O.below (B := w.heap.size) (by omega) (by simp; omega))
      have zm15 := O.size
      clear O NN
      have v1 : decide (1 + (X0.length : Int) + (X1.length : Int) < 0) = false := by simp; omega
      have bIc0 : w15.cell? ⟨pbI, 0, none⟩ = some (.bool gd) := bI.cell 0
      have bIc1 : w15.cell? ⟨pbI, 1, none⟩ = some (.slice aoI xs.length coI) := bI.cell 1
      have bIc2 : w15.cell? ⟨pbI, 2, none⟩ = some (.slice aoI' ys.length coI') := bI.cell 2
      have bIc3 : w15.cell? ⟨pbI, 3, none⟩ = some (.int .i64 md) := bI.cell 3
      have bIc4 : w15.cell? ⟨pbI, 4, none⟩ = some (.int .i64 li) := bI.cell 4
      have bIc5 : w15.cell? ⟨pbI, 5, none⟩ = some (.string ho) := bI.cell 5
      have bIc6 : w15.cell? ⟨pbI, 6, none⟩ = some (.string pr) := bI.cell 6
      have bIc7 : w15.cell? ⟨pbI, 7, none⟩ = some (.int .i64 ea) := bI.cell 7
      have bSc0 : w15.cell? ⟨pbS, 0, none⟩ = some (.bool gd) := bS.cell 0
      have bSc1 : w15.cell? ⟨pbS, 1, none⟩ = some (.slice aoS xs.length coS) := bS.cell 1
      have bSc2 : w15.cell? ⟨pbS, 2, none⟩ = some (.slice aoS' ys.length coS') := bS.cell 2
      have bSc3 : w15.cell? ⟨pbS, 3, none⟩ = some (.int .i64 md) := bS.cell 3
      have bSc4 : w15.cell? ⟨pbS, 4, none⟩ = some (.int .i64 li) := bS.cell 4
      have bSc5 : w15.cell? ⟨pbS, 5, none⟩ = some (.string ho) := bS.cell 5
      have bSc6 : w15.cell? ⟨pbS, 6, none⟩ = some (.string pr) := bS.cell 6
      have bSc7 : w15.cell? ⟨pbS, 7, none⟩ = some (.int .i64 ea) := bS.cell 7
      go_wp2_with fail
      refine (eqStateResult_same w15 gd md li ho pr ea _ _ _ _ _ _ xs oI.rd oS.rd hx _ _ _ _ _ _ ys oI'.rd oS'.rd hy).mono ?_
      rintro e w16 ⟨rfl, m16⟩
      have zm16 := m16.size
      clear bIc0 bIc1 bIc2 bIc3 bIc4 bIc5 bIc6 bIc7
      clear bSc0 bSc1 bSc2 bSc3 bSc4 bSc5 bSc6 bSc7
      replace oS := oS.up m16
      replace oS' := oS'.up m16
      replace bS := bS.up m16
      replace oI := oI.up m16
      replace oI' := oI'.up m16
      replace bI := bI.up m16
      replace N := nxt N m16
      clear m16
      have bIc0 : w16.cell? ⟨pbI, 0, none⟩ = some (.bool gd) := bI.cell 0
      have bIc1 : w16.cell? ⟨pbI, 1, none⟩ = some (.slice aoI xs.length coI) := bI.cell 1
      have bIc2 : w16.cell? ⟨pbI, 2, none⟩ = some (.slice aoI' ys.length coI') := bI.cell 2
      have bIc3 : w16.cell? ⟨pbI, 3, none⟩ = some (.int .i64 md) := bI.cell 3
      have bIc4 : w16.cell? ⟨pbI, 4, none⟩ = some (.int .i64 li) := bI.cell 4
      have bIc5 : w16.cell? ⟨pbI, 5, none⟩ = some (.string ho) := bI.cell 5
      have bIc6 : w16.cell? ⟨pbI, 6, none⟩ = some (.string pr) := bI.cell 6
      have bIc7 : w16.cell? ⟨pbI, 7, none⟩ = some (.int .i64 ea) := bI.cell 7
      go_wp2_with fail
      refine (markStateResult_any w16 gd md li ho pr ea _ _ _ xs _ _ _ ys 1 oI oI' hx hy ⟨neoI, by omega, by omega⟩ (by decide) (by decide)).mono ?_
      rintro e w17 ⟨rfl, oA, oA', O⟩
      clear bIc0 bIc1 bIc2 bIc3 bIc4 bIc5 bIc6 bIc7
      clear oI oI'
      replace oS := oS.tch O (fun h => by simp; omega)
      replace oS' := oS'.tch O (fun h => by simp; omega)
      replace bS := bS.tch O (by simp; omega)
      replace bI := bI.tch O (by simp; omega)
      have NN := N.size
      replace N := N.trans (O.below (B := w.heap.size) (by omega) (by simp; omega))
      have zm17 := O.size
      clear O NN
      have v2 : decide ((1 : Int) + (xs.length : Int) + (ys.length : Int) < 0) = false := by simp; omega
      have bIc0 : w17.cell? ⟨pbI, 0, none⟩ = some (.bool gd) := bI.cell 0
      have bIc1 : w17.cell? ⟨pbI, 1, none⟩ = some (.slice aoI xs.length coI) := bI.cell 1
      have bIc2 : w17.cell? ⟨pbI, 2, none⟩ = some (.slice aoI' ys.length coI') := bI.cell 2
      have bIc3 : w17.cell? ⟨pbI, 3, none⟩ = some (.int .i64 md) := bI.cell 3
      have bIc4 : w17.cell? ⟨pbI, 4, none⟩ = some (.int .i64 li) := bI.cell 4
      have bIc5 : w17.cell? ⟨pbI, 5, none⟩ = some (.string ho) := bI.cell 5
      have bIc6 : w17.cell? ⟨pbI, 6, none⟩ = some (.string pr) := bI.cell 6
      have bIc7 : w17.cell? ⟨pbI, 7, none⟩ = some (.int .i64 ea) := bI.cell 7
      go_wp2_with fail
      refine (heldStateResult_any w17 gd md li ho pr ea _ _ _ xs.length _ _ _ ys.length 1 oA.rd oA'.rd hx hy (by decide) (by decide)).mono ?_
      rintro e w18 ⟨rfl, m18⟩
      have zm18 := m18.size
      clear bIc0 bIc1 bIc2 bIc3 bIc4 bIc5 bIc6 bIc7
      replace oS := oS.up m18
      replace oS' := oS'.up m18
      replace bS := bS.up m18
      replace bI := bI.up m18
      replace oA := oA.up m18
      replace oA' := oA'.up m18
      replace N := nxt N m18
      clear m18
      go_wp2_with fail
      refine (toByteS_any w18 g0 a0 c0 X0 (hX0.up N) q0).mono ?_
      rintro e w19 ⟨rfl, dB0, m19⟩
      have zm19 := m19.size
      replace oS := oS.up m19
      replace oS' := oS'.up m19
      replace bS := bS.up m19
      replace bI := bI.up m19
      replace oA := oA.up m19
      replace oA' := oA'.up m19
      replace N := nxt N m19
      clear m19
      obtain ⟨d0, ed0⟩ : ∃ b, b = w18.heap.size := ⟨_, rfl⟩
      rw [← ed0] at dB0 ⊢
      have ldB0 := dB0.lt
      have ydB0 : w18.heap.size ≤ d0 := Nat.le_of_eq ed0.symm
      clear ed0
      go_wp2_with fail
      refine (toByteS_any w19 g1 a1 c1 X1 (hX1.up N) q1).mono ?_
      rintro e w20 ⟨rfl, dB1, m20⟩
      have zm20 := m20.size
      replace oS := oS.up m20
      replace oS' := oS'.up m20
      replace bS := bS.up m20
      replace bI := bI.up m20
      replace oA := oA.up m20
      replace oA' := oA'.up m20
      replace dB0 := dB0.up m20
      replace N := nxt N m20
      clear m20
      obtain ⟨d1, ed1⟩ : ∃ b, b = w19.heap.size := ⟨_, rfl⟩
      rw [← ed1] at dB1 ⊢
      have ldB1 := dB1.lt
      have ydB1 : w19.heap.size ≤ d1 := Nat.le_of_eq ed1.symm
      clear ed1
      go_wp2_with fail
      refine (IM w20 _ _ _ dB0.own0.rd (by simp) (Nat.le_refl _) _ _ _ dB1.own0.rd (by simp) (Nat.le_refl _)).mono ?_
      rintro e w21 ⟨EoJ, m21⟩
      have zm21 := m21.size
      replace oS := oS.up m21
      replace oS' := oS'.up m21
      replace bS := bS.up m21
      replace bI := bI.up m21
      replace oA := oA.up m21
      replace oA' := oA'.up m21
      replace dB0 := dB0.up m21
      replace dB1 := dB1.up m21
      replace N := nxt N m21
      clear m21
      obtain ⟨aoJ, coJ, goJ, aoJ', coJ', goJ', rfl, oJ, oJ', neoJ, koJ, koJ', doJ⟩ := EoJ.pick m0 m1 (by omega) (by omega) (by omega)
      clear EoJ
      clear dB0 dB1
      have bJ : RwC (w21.alloc (.cells #[.bool gd, .slice aoJ xs.length coJ, .slice aoJ' ys.length coJ', .int .i64 md, .int .i64 li, .string ho, .string pr, .int .i64 ea] 36)) w21.heap.size [.bool gd, .slice aoJ xs.length coJ, .slice aoJ' ys.length coJ', .int .i64 md, .int .i64 li, .string ho, .string pr, .int .i64 ea] 36 := RwC.new w21 _ _
      have m22 : Below w21.heap.size w21 (w21.alloc (.cells #[.bool gd, .slice aoJ xs.length coJ, .slice aoJ' ys.length coJ', .int .i64 md, .int .i64 li, .string ho, .string pr, .int .i64 ea] 36)) := (Below.refl _ _).alloc (Nat.le_refl _) _
      have zm22 := m22.size
      obtain ⟨pbJ, ebJ⟩ : ∃ b, b = w21.heap.size := ⟨_, rfl⟩
      have ybJ : w21.heap.size ≤ pbJ := Nat.le_of_eq ebJ.symm
      rw [← ebJ] at bJ
      have lbJ := bJ.lt
      replace oS := oS.up m22
      replace oS' := oS'.up m22
      replace bS := bS.up m22
      replace bI := bI.up m22
      replace oA := oA.up m22
      replace oA' := oA'.up m22
      replace oJ := oJ.up m22
      replace oJ' := oJ'.up m22
      replace N := nxt N m22
      clear m22
      have bJc0 : (w21.alloc (.cells #[.bool gd, .slice aoJ xs.length coJ, .slice aoJ' ys.length coJ', .int .i64 md, .int .i64 li, .string ho, .string pr, .int .i64 ea] 36)).cell? ⟨pbJ, 0, none⟩ = some (.bool gd) := bJ.cell 0
      have bJc1 : (w21.alloc (.cells #[.bool gd, .slice aoJ xs.length coJ, .slice aoJ' ys.length coJ', .int .i64 md, .int .i64 li, .string ho, .string pr, .int .i64 ea] 36)).cell? ⟨pbJ, 1, none⟩ = some (.slice aoJ xs.length coJ) := bJ.cell 1
      have bJc2 : (w21.alloc (.cells #[.bool gd, .slice aoJ xs.length coJ, .slice aoJ' ys.length coJ', .int .i64 md, .int .i64 li, .string ho, .string pr, .int .i64 ea] 36)).cell? ⟨pbJ, 2, none⟩ = some (.slice aoJ' ys.length coJ') := bJ.cell 2
      have bJc3 : (w21.alloc (.cells #[.bool gd, .slice aoJ xs.length coJ, .slice aoJ' ys.length coJ', .int .i64 md, .int .i64 li, .string ho, .string pr, .int .i64 ea] 36)).cell? ⟨pbJ, 3, none⟩ = some (.int .i64 md) := bJ.cell 3
      have bJc4 : (w21.alloc (.cells #[.bool gd, .slice aoJ xs.length coJ, .slice aoJ' ys.length coJ', .int .i64 md, .int .i64 li, .string ho, .string pr, .int .i64 ea] 36)).cell? ⟨pbJ, 4, none⟩ = some (.int .i64 li) := bJ.cell 4
      have bJc5 : (w21.alloc (.cells #[.bool gd, .slice aoJ xs.length coJ, .slice aoJ' ys.length coJ', .int .i64 md, .int .i64 li, .string ho, .string pr, .int .i64 ea] 36)).cell? ⟨pbJ, 5, none⟩ = some (.string ho) := bJ.cell 5
      have bJc6 : (w21.alloc (.cells #[.bool gd, .slice aoJ xs.length coJ, .slice aoJ' ys.length coJ', .int .i64 md, .int .i64 li, .string ho, .string pr, .int .i64 ea] 36)).cell? ⟨pbJ, 6, none⟩ = some (.string pr) := bJ.cell 6
      have bJc7 : (w21.alloc (.cells #[.bool gd, .slice aoJ xs.length coJ, .slice aoJ' ys.length coJ', .int .i64 md, .int .i64 li, .string ho, .string pr, .int .i64 ea] 36)).cell? ⟨pbJ, 7, none⟩ = some (.int .i64 ea) := bJ.cell 7
      have bSc0 : (w21.alloc (.cells #[.bool gd, .slice aoJ xs.length coJ, .slice aoJ' ys.length coJ', .int .i64 md, .int .i64 li, .string ho, .string pr, .int .i64 ea] 36)).cell? ⟨pbS, 0, none⟩ = some (.bool gd) := bS.cell 0
      have bSc1 : (w21.alloc (.cells #[.bool gd, .slice aoJ xs.length coJ, .slice aoJ' ys.length coJ', .int .i64 md, .int .i64 li, .string ho, .string pr, .int .i64 ea] 36)).cell? ⟨pbS, 1, none⟩ = some (.slice aoS xs.length coS) := bS.cell 1
      have bSc2 : (w21.alloc (.cells #[.bool gd, .slice aoJ xs.length coJ, .slice aoJ' ys.length coJ', .int .i64 md, .int .i64 li, .string ho, .string pr, .int .i64 ea] 36)).cell? ⟨pbS, 2, none⟩ = some (.slice aoS' ys.length coS') := bS.cell 2
      have bSc3 : (w21.alloc (.cells #[.bool gd, .slice aoJ xs.length coJ, .slice aoJ' ys.length coJ', .int .i64 md, .int .i64 li, .string ho, .string pr, .int .i64 ea] 36)).cell? ⟨pbS, 3, none⟩ = some (.int .i64 md) := bS.cell 3
      have bSc4 : (w21.alloc (.cells #[.bool gd, .slice aoJ xs.length coJ, .slice aoJ' ys.length coJ', .int .i64 md, .int .i64 li, .string ho, .string pr, .int .i64 ea] 36)).cell? ⟨pbS, 4, none⟩ = some (.int .i64 li) := bS.cell 4
      have bSc5 : (w21.alloc (.cells #[.bool gd, .slice aoJ xs.length coJ, .slice aoJ' ys.length coJ', .int .i64 md, .int .i64 li, .string ho, .string pr, .int .i64 ea] 36)).cell? ⟨pbS, 5, none⟩ = some (.string ho) := bS.cell 5
      have bSc6 : (w21.alloc (.cells #[.bool gd, .slice aoJ xs.length coJ, .slice aoJ' ys.length coJ', .int .i64 md, .int .i64 li, .string ho, .string pr, .int .i64 ea] 36)).cell? ⟨pbS, 6, none⟩ = some (.string pr) := bS.cell 6
      have bSc7 : (w21.alloc (.cells #[.bool gd, .slice aoJ xs.length coJ, .slice aoJ' ys.length coJ', .int .i64 md, .int .i64 li, .string ho, .string pr, .int .i64 ea] 36)).cell? ⟨pbS, 7, none⟩ = some (.int .i64 ea) := bS.cell 7
      go_wp2_with fail
      rw [← ebJ]
      clear ebJ
      generalize w21.alloc (.cells #[.bool gd, .slice aoJ xs.length coJ, .slice aoJ' ys.length coJ', .int .i64 md, .int .i64 li, .string ho, .string pr, .int .i64 ea] 36) = w22 at *
      refine (eqStateResult_same w22 gd md li ho pr ea _ _ _ _ _ _ xs oJ.rd oS.rd hx _ _ _ _ _ _ ys oJ'.rd oS'.rd hy).mono ?_
      rintro e w23 ⟨rfl, m23⟩
      have zm23 := m23.size
      clear bJc0 bJc1 bJc2 bJc3 bJc4 bJc5 bJc6 bJc7
      clear bSc0 bSc1 bSc2 bSc3 bSc4 bSc5 bSc6 bSc7
      replace oS := oS.up m23
      replace oS' := oS'.up m23
      replace bS := bS.up m23
      replace bI := bI.up m23
      replace oA := oA.up m23
      replace oA' := oA'.up m23
      replace oJ := oJ.up m23
      replace oJ' := oJ'.up m23
      replace bJ := bJ.up m23
      replace N := nxt N m23
      clear m23
      have bIc0 : w23.cell? ⟨pbI, 0, none⟩ = some (.bool gd) := bI.cell 0
      have bIc1 : w23.cell? ⟨pbI, 1, none⟩ = some (.slice aoI xs.length coI) := bI.cell 1
      have bIc2 : w23.cell? ⟨pbI, 2, none⟩ = some (.slice aoI' ys.length coI') := bI.cell 2
      have bIc3 : w23.cell? ⟨pbI, 3, none⟩ = some (.int .i64 md) := bI.cell 3
      have bIc4 : w23.cell? ⟨pbI, 4, none⟩ = some (.int .i64 li) := bI.cell 4
      have bIc5 : w23.cell? ⟨pbI, 5, none⟩ = some (.string ho) := bI.cell 5
      have bIc6 : w23.cell? ⟨pbI, 6, none⟩ = some (.string pr) := bI.cell 6
      have bIc7 : w23.cell? ⟨pbI, 7, none⟩ = some (.int .i64 ea) := bI.cell 7
      go_wp2_with fail
      refine (heldStateResult_any w23 gd md li ho pr ea _ _ _ xs.length _ _ _ ys.length 1 oA.rd oA'.rd hx hy (by decide) (by decide)).mono ?_
      rintro e w24 ⟨rfl, m24⟩
      have zm24 := m24.size
      clear bIc0 bIc1 bIc2 bIc3 bIc4 bIc5 bIc6 bIc7
      replace oS := oS.up m24
      replace oS' := oS'.up m24
      replace bS := bS.up m24
      replace bI := bI.up m24
      replace oA := oA.up m24
      replace oA' := oA'.up m24
      replace oJ := oJ.up m24
      replace oJ' := oJ'.up m24
      replace bJ := bJ.up m24
      replace N := nxt N m24
      clear m24
      go_wp2
      go_ret
      exact ⟨rfl, N⟩
    · have u1 : decide ((1048576 : Int) < (X1.length : Int)) = true := by simp; omega
      go_enter Try.func4, Try.ntmps4
      go_wp2
      go_ret
      exact ⟨rfl, Below.refl _ _⟩
  · have u0 : decide ((1048576 : Int) < (X0.length : Int)) = true := by simp; omega
    go_enter Try.func4, Try.ntmps4
    go_wp2
    go_ret
    exact ⟨rfl, Below.refl _ _⟩
end Go.Proofs.Ytcljoaknaegpmaa
