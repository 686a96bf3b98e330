
/-
  A region that ends with a struct stored into a block that was there, and a constant taken over behind it. No program in sight.
-/
import Derived.Test.YtjfggcefdobooaaDoorRg3
import Derived.Test.YtjfggcefdobooaaDoorRgT
namespace Go.Proofs.YtjfggcefdobooaaDoor
set_option maxRecDepth 100000
open Go Go.RowKit

section
variable {P : Program} {ops : Array Oper} {Q : Exit → Act → World → Prop}
theorem region_putA {a0 : Act} {id : Nat} {draw : Bool} {w : World} (k jV pA pV d2 : Nat) (cv : Value) (o o2 : Oper) (F : Nat → Fact) (t : TypeId) (zs : List Value) (q : Nat) (G : Fact) (hm : P.follows .mixedOrders = true) (hT : textTail .any draw ops a0.tmps.size k = true) (hk : ops.toList.drop k = [o, o2]) (ho2 : ops[k + 1]? = some o2) (hd : o.dst = none) (hd2 : o2.dst = some d2) (hop2 : o2.op = .assign (.const cv)) (s2 : d2 < a0.tmps.size)
    (hop : o.op = .store t (.tmp pA) (.tmp pV)) (hi : (P.info? t).map (·.size) = some zs.length) (hA : ∀ a, Based ops a0 a → a.tmps.getD pA undef = .pointer (some ⟨q, 0, none⟩)) (hq : RwC w q zs t) (wV : decide (jV < k) = true ∧ writes ops jV pV = true) (FV : F jV = G)
    (hG : ∀ v W, G.p v W → ∃ cs : List Value, v = .agg cs.toArray ∧ cs.length = zs.length ∧ cs.toArray.all (·.oneCell') = true) (steps : ∀ i, i < k → StepOk P .any ops Q F a0 w i)
    (fin : ∀ (vs : Nat → Value) (W W' : World) (cs : List Value), vs d2 = cv → Below w.heap.size w W → RwC W q zs t → G.p (.agg cs.toArray) W → Only q W W' → RwC W' q cs t → Q .normal (puts vs a0 ops.toList) W') : (Code.region id ops draw).wp P Q a0 w := by
  refine region_tail k F hm hT steps [] (by simp) (by simp) fun a W hb hw hf _ => ?_
  rw [hk]
  show o.wp P a W (fun a' w'' => o2.wp P a' w'' (fun a'' w3 => Q .normal a'' w3) Q) Q
  have e1 := hA a hb
  have e2 := hf jV pV wV.1 wV.2
  rw [FV] at e2
  obtain ⟨cs, ev, hl, h1⟩ := hG _ _ e2
  have hq' := hq.up hw
  have TH : W.there q 0 cs.length := by rw [hl]; exact hq'.thereG
  refine wp_store_mid _ (.tmp pA) (.tmp pV) hop q 0 cs.toArray e1 ev (by simpa using TH) (by rw [hi]; simp [hl]) h1 ?_
  rw [hd]
  show o2.wp P a _ (fun a'' w3 => Q .normal a'' w3) Q
  have hr2 : (execOp a.eval o2).run P (W.setCells q 0 cs) = .ok (.value cv) (W.setCells q 0 cs) := by simp [execOp, hop2, Act.eval]
  have hb2 := Based.put hb ho2 cv
  unfold Oper.wp
  rw [hr2, Oper.upon_value]
  show Q .normal (a.put o2.dst cv) _
  have e3 : (a.put o2.dst cv).tmps.getD d2 undef = cv := by
    rw [hd2]
    exact put_at (by rw [hb.2.1]; exact s2)
  obtain ⟨vs, hvs⟩ : ∃ vs : Nat → Value, ∀ d, (a.put o2.dst cv).tmps.getD d undef = vs d := ⟨_, fun _ => rfl⟩
  rw [puts_tail hT rfl hb2 vs hvs]
  have OQ := only_setG W q cs 0
  have e2' : G.p (.agg cs.toArray) W := by rw [← ev]; exact e2
  exact fin vs W _ cs (by rw [← hvs, e3]) hw hq' e2' OQ (RwC.put hq' hl)
end
end Go.Proofs.YtjfggcefdobooaaDoor
