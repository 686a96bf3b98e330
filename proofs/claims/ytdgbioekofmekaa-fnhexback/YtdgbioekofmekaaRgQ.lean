
/-
  Steps of regions by facts: picks, lists that may be read.
-/
import Derived.Test.YtdgbioekofmekaaRg5
import Derived.Test.YtdgbioekofmekaaRgV
import Derived.Test.YtdgbioekofmekaaRdT
namespace Go.Proofs.Ytdgbioekofmekaa
open Go Go.RowKit

theorem step_pickF {ops : Array Oper} {Q : Exit → Act → World → Prop} {md : Region.Mode} {F : Nat → Fact} {a0 : Act} {w0 : World} {i : Nat} {o : Oper} {P : Program} (hi : ops[i]? = some o) (p q j k : Nat) {v : Value} {x : Value} (hop : o.op = .pick (.tmp p) (.const x) (.tmp q)) (hj : waits md ops i j p = true) (hk : waits md ops i k q = true) (hFj : F j = Fact.eq (.bool false)) (hFk : F k = Fact.eq v) (hFi : F i = Fact.eq v) : StepOk P md ops Q F a0 w0 i := by
  refine step_pure hi fun a w _ _ hf => ⟨v, ?_, by rw [hFi]; exact rfl⟩
  have h1 := hf j p hj
  have h2 := hf k q hk
  rw [hFj] at h1
  rw [hFk] at h2
  have g1 : a.eval (.tmp p) = .bool false := h1
  have g2 : a.eval (.tmp q) = v := h2
  have g3 : a.eval (.const x) = x := rfl
  simp only [execOp, hop, g1, g2, g3]
  rfl
/-- A list that may be read. -/
def RDn (ys : List Int) : Fact := ⟨fun v w => ∃ (a : Option Addr) (c g : Nat), v = .slice a ys.length c ∧ Rd w g a .u8 ys, fun n h => by
  obtain ⟨a, c, g, e, r⟩ := h
  exact ⟨a, c, g, e, r.up n⟩⟩
/-- A list that was made from block B on. -/
def RWn (B : Nat) (ys : List Int) : Fact := ⟨fun v w => ∃ (a : Option Addr) (c g : Nat), v = .slice a ys.length c ∧ Own w g a .u8 ys ∧ (a = none → c = 0) ∧ ys.length ≤ c ∧ B ≤ g, fun n h => by
  obtain ⟨a, c, g, e, r, k⟩ := h
  exact ⟨a, c, g, e, r.up n, k⟩⟩
/-- Where a part of a list begins. -/
def cutP (g o c t : Nat) : Option Addr := if c = t then some ⟨g, o, none⟩ else some ⟨g, o + t, none⟩
theorem cutP_some (g o c t : Nat) : cutP g o c t ≠ none := by unfold cutP; split <;> simp
theorem rd_cutP {w : World} {g o c : Nat} {xs : List Int} (h : Rd w g (some ⟨g, o, none⟩) .u8 xs) (hc : xs.length ≤ c) (t n : Nat) : Rd w g (cutP g o c t) .u8 ((xs.drop t).take n) := by
  unfold cutP
  split
  · rw [List.drop_eq_nil_of_le (by omega), List.take_nil]
    exact Rd.nil _ _ _ _
  · by_cases hl : t < xs.length
    · obtain ⟨o', e, r⟩ := h.dropA t hl
      cases e
      exact r.takeA n
    · rw [List.drop_eq_nil_of_le (by omega), List.take_nil]
      exact Rd.nil _ _ _ _
section
variable {P : Program} {ops : Array Oper} {Q : Exit → Act → World → Prop} {a0 : Act}
/-- A region that ends with the storing of a row at a place that was known ahead of it. -/
theorem region_putB {id : Nat} {draw : Bool} {w : World} (k pD jV pV : Nat) (o : Oper) (F : Nat → Fact) (q N : Nat) (ty : TypeId) (R : List Value → World → Prop) (hm : P.follows .mixedOrders = true) (hT : textOk .any ops a0.tmps.size k = true) (hk : ops[k]? = some o) (hd : o.dst = none)
    (hop : o.op = .store ty (.tmp pD) (.tmp pV)) (aD : apart ops pD = true) (eD : a0.tmps.getD pD undef = .pointer (some ⟨q, 0, none⟩)) (wV : writes ops jV pV = true)
    (FV : ∀ v W, (F jV).p v W → ∃ cells : List Value, v = .agg cells.toArray ∧ cells.length = N ∧ cells.toArray.all (·.oneCell') = true ∧ R cells W)
    (hth : ∀ W, Below w.heap.size w W → W.there q 0 N) (hi : (P.info? ty).map (·.size) = some N) (steps : ∀ i, i < k → StepOk P .any ops Q F a0 w i)
    (fin : ∀ (vs : Nat → Value) (W : World) (cells : List Value), Below w.heap.size w W → R cells W → Q .normal (puts vs a0 ops.toList) (W.setCells q 0 cells)) : (Code.region id ops draw).wp P Q a0 w := by
  refine region_store k o F hm hT hk hd steps fun a W hb hw hF => ?_
  obtain ⟨cells, e2, hl, h1, hR⟩ := FV _ _ (hF jV pV wV)
  have e1 : a.eval (.tmp pD) = .pointer (some ⟨q, 0, none⟩) := (hb.2.2 pD aD).trans eD
  refine wp_store_mid ty (.tmp pD) (.tmp pV) hop q 0 cells.toArray e1 e2 (by rw [List.size_toArray, hl]; exact hth W hw) (by rw [List.size_toArray, hl]; exact hi) h1 ?_
  obtain ⟨vs, hvs⟩ : ∃ vs : Nat → Value, ∀ d, a.tmps.getD d undef = vs d := ⟨_, fun _ => rfl⟩
  rw [hd]
  show Q .normal a _
  rw [puts_of hT rfl hb vs hvs]
  exact fin vs W cells hw hR
end
end Go.Proofs.Ytdgbioekofmekaa
