import Derived.Test.YtjjoimlnpbelpaaGK5
import Derived.Test.YtjjoimlnpbelpaaGK2
import Derived.Deep.Cut

/-
  Regions that end with a struct stored into a new block, or into one that was there; steps for them. No program in sight.
-/
namespace Go.Proofs.Ytjjoimlnpbelpaa
open Go Go.RowKit

/-- A new block of a struct's zero cells. -/
def NBt (b : Nat) (t : TypeId) (zs : List Value) : Fact := ⟨fun v w => ∃ q, v = .pointer (some ⟨q, 0, none⟩) ∧ b ≤ q ∧ RwC w q zs t, fun n h => by
  obtain ⟨q, e, l, r⟩ := h
  exact ⟨q, e, l, r.up n⟩⟩
theorem RowB.onlyT {w w' : World} {base q : Nat} {v : Value} {xs : List Int} {zs : List Value} {t : TypeId} (h : RowB w base v xs) (O : Only q w w') (hq : RwC w q zs t) (ht : t ≠ 5) : RowB w' base v xs := by
  refine ⟨h.1, ?_⟩
  rcases h.2 with h' | ⟨g, cap, cur, rfl, hbg, hg, hnc, hcm, hcs, hT⟩
  · exact .inl h'
  · refine .inr ⟨g, cap, cur, rfl, hbg, ?_, hnc, hcm, hcs, hT⟩
    rw [O.block g ?_]
    · exact hg
    · rintro rfl
      unfold RwC at hq
      rw [hg] at hq
      simp only [Option.some.injEq, Obj.cells.injEq] at hq
      exact ht hq.2.1.symm
def putAt : List Value → Nat → List Value → List Value
  | zs, _, [] => zs
  | zs, o, v :: vs => putAt (zs.set o v) (o + 1) vs
theorem putAt_get : ∀ (vs zs : List Value) (o i : Nat), o + vs.length ≤ zs.length → (putAt zs o vs)[i]? = if o ≤ i ∧ i < o + vs.length then vs[i - o]? else zs[i]?
  | [], zs, o, i, _ => by
    rw [if_neg (by simp only [List.length_nil]; omega)]
    rfl
  | v :: vs, zs, o, i, h => by
    simp only [List.length_cons] at h ⊢
    rw [putAt, putAt_get vs (zs.set o v) (o + 1) i (by rw [List.length_set]; omega)]
    by_cases e : o = i
    · subst e
      rw [if_neg (by omega), if_pos (by omega), List.getElem?_set_self (by omega), Nat.sub_self]
      rfl
    · by_cases h2 : o + 1 ≤ i ∧ i < o + 1 + vs.length
      · rw [if_pos h2, if_pos (by omega), show i - o = (i - (o + 1)) + 1 by omega]
        rfl
      · rw [if_neg h2, if_neg (by omega), List.getElem?_set_ne e]
theorem putAt_all {zs cs : List Value} (h : cs.length = zs.length) : putAt zs 0 cs = cs := by
  apply List.ext_getElem?
  intro i
  rw [putAt_get cs zs 0 i (by omega)]
  by_cases hi : i < cs.length
  · rw [if_pos (by omega)]
    rfl
  · rw [if_neg (by omega), List.getElem?_eq_none (by omega), List.getElem?_eq_none (by omega)]
theorem RwC.puts {t : TypeId} {q : Nat} : ∀ (vs zs : List Value) (w : World) (o : Nat), RwC w q zs t → RwC (w.setCells q o vs) q (putAt zs o vs) t
  | [], _, _, _, h => h
  | v :: vs, zs, w, o, h => RwC.puts vs (zs.set o v) (w.setCell ⟨q, o, none⟩ v) (o + 1) (h.set o v)
theorem RwC.put {w : World} {q : Nat} {zs cs : List Value} {t : TypeId} (h : RwC w q zs t) (hl : cs.length = zs.length) : RwC (w.setCells q 0 cs) q cs t := by
  have := RwC.puts cs zs w 0 h
  rwa [putAt_all hl] at this
section
variable {P : Program} {ops : Array Oper} {Q : Exit → Act → World → Prop}
theorem region_newT {a0 : Act} {id : Nat} {draw : Bool} {w : World} (k jA jV pA pV : Nat) (o : Oper) (F : Nat → Fact) (t : TypeId) (zs : List Value) (G : Fact) (hm : P.follows .mixedOrders = true) (hT : textOk .any ops a0.tmps.size k = true) (hk : ops[k]? = some o) (hd : o.dst = none)
    (hop : o.op = .store t (.tmp pA) (.tmp pV)) (hi : (P.info? t).map (·.size) = some zs.length) (wA : writes ops jA pA = true) (FA : F jA = NBt w.heap.size t zs) (wV : writes ops jV pV = true) (FV : F jV = G)
    (hG : ∀ v W, G.p v W → ∃ cs : List Value, v = .agg cs.toArray ∧ cs.length = zs.length ∧ cs.toArray.all (·.oneCell') = true) (steps : ∀ i, i < k → StepOk P .any ops Q F a0 w i)
    (fin : ∀ (vs : Nat → Value) (W W' : World) (q : Nat) (cs : List Value), vs pA = .pointer (some ⟨q, 0, none⟩) → w.heap.size ≤ q → Below w.heap.size w W → RwC W q zs t → G.p (.agg cs.toArray) W → Only q W W' → RwC W' q cs t → Below w.heap.size w W' → Q .normal (puts vs a0 ops.toList) W') : (Code.region id ops draw).wp P Q a0 w := by
  refine region_store k o F hm hT hk hd steps fun a W hb hw hF => ?_
  have e1 := hF jA pA wA
  have e2 := hF jV pV wV
  rw [FA] at e1
  rw [FV] at e2
  obtain ⟨q, e1, hB, hq⟩ := e1
  obtain ⟨cs, ev, hl, h1⟩ := hG _ _ e2
  have TH : W.there q 0 cs.length := by rw [hl]; exact hq.thereG
  refine wp_store_mid _ (.tmp pA) (.tmp pV) hop q 0 cs.toArray e1 ev (by simpa using TH) (by rw [hi]; simp [hl]) h1 ?_
  obtain ⟨vs, hvs⟩ : ∃ vs : Nat → Value, ∀ d, a.tmps.getD d undef = vs d := ⟨_, fun _ => rfl⟩
  rw [hd]
  show Q .normal a _
  rw [puts_of hT rfl hb vs hvs]
  have OQ := only_setG W q cs 0
  have e2' : G.p (.agg cs.toArray) W := by rw [← ev]; exact e2
  exact fin vs W _ q cs ((hvs pA).symm.trans e1) hB hw hq e2' OQ (RwC.put hq hl) (hw.trans (OQ.below hB))
theorem region_putT {a0 : Act} {id : Nat} {draw : Bool} {w : World} (k jV pA pV : Nat) (o : Oper) (F : Nat → Fact) (t : TypeId) (zs : List Value) (q : Nat) (G : Fact) (hm : P.follows .mixedOrders = true) (hT : textOk .any ops a0.tmps.size k = true) (hk : ops[k]? = some o) (hd : o.dst = none)
    (hop : o.op = .store t (.tmp pA) (.tmp pV)) (hi : (P.info? t).map (·.size) = some zs.length) (hA : ∀ a, Based ops a0 a → a.tmps.getD pA undef = .pointer (some ⟨q, 0, none⟩)) (hq : RwC w q zs t) (wV : writes ops jV pV = true) (FV : F jV = G)
    (hG : ∀ v W, G.p v W → ∃ cs : List Value, v = .agg cs.toArray ∧ cs.length = zs.length ∧ cs.toArray.all (·.oneCell') = true) (steps : ∀ i, i < k → StepOk P .any ops Q F a0 w i)
    (fin : ∀ (vs : Nat → Value) (W W' : World) (cs : List Value), Below w.heap.size w W → RwC W q zs t → G.p (.agg cs.toArray) W → Only q W W' → RwC W' q cs t → Q .normal (puts vs a0 ops.toList) W') : (Code.region id ops draw).wp P Q a0 w := by
  refine region_store k o F hm hT hk hd steps fun a W hb hw hF => ?_
  have e1 := hA a hb
  have e2 := hF jV pV wV
  rw [FV] at e2
  obtain ⟨cs, ev, hl, h1⟩ := hG _ _ e2
  have hq' := hq.up hw
  have TH : W.there q 0 cs.length := by rw [hl]; exact hq'.thereG
  refine wp_store_mid _ (.tmp pA) (.tmp pV) hop q 0 cs.toArray e1 ev (by simpa using TH) (by rw [hi]; simp [hl]) h1 ?_
  obtain ⟨vs, hvs⟩ : ∃ vs : Nat → Value, ∀ d, a.tmps.getD d undef = vs d := ⟨_, fun _ => rfl⟩
  rw [hd]
  show Q .normal a _
  rw [puts_of hT rfl hb vs hvs]
  have OQ := only_setG W q cs 0
  have e2' : G.p (.agg cs.toArray) W := by rw [← ev]; exact e2
  exact fin vs W _ cs hw hq' e2' OQ (RwC.put hq' hl)
end
end Go.Proofs.Ytjjoimlnpbelpaa
