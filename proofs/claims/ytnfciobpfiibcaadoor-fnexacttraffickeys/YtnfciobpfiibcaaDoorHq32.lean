
/-
  The program's state of a hash as it is told (written by gens/hq.py).
-/
import Derived.Test.YtnfciobpfiibcaaDoorHe32
import Derived.Test.YtnfciobpfiibcaaDoorSh32
namespace Go.Proofs.YtnfciobpfiibcaaDoor
set_option maxRecDepth 100000
open Go Go.RowKit

/-- A list that the call made. -/
def RNh (B : Nat) (ys : List Int) : Fact := ⟨fun v w => ∃ (a : Option Addr) (c g : Nat), v = .slice a ys.length c ∧ Own w g a .u8 ys ∧ (a = none → c = 0) ∧ ys.length ≤ c ∧ B ≤ g, fun n h => by
  obtain ⟨a, c, g, e, o, q⟩ := h
  exact ⟨a, c, g, e, o.up n, q⟩⟩
/-- A state that the call made: its length, its words, its rest. -/
def ST3 (w : World) (v : Value) (B : Nat) (L : Int) (ws rs : List Int) : Prop :=
  ∃ (a a' : Option Addr) (c c' g g' : Nat), v = .agg #[.int .i64 L, .slice a ws.length c, .slice a' rs.length c'] ∧ Own w g a .u8 ws ∧ Own w g' a' .u8 rs ∧ (a = none → c = 0) ∧ (a' = none → c' = 0) ∧ ws.length ≤ c ∧ rs.length ≤ c' ∧ B ≤ g ∧ B ≤ g'
theorem ST3.up {w w' : World} {v : Value} {B : Nat} {L : Int} {ws rs : List Int} (h : ST3 w v B L ws rs) (n : Below w.heap.size w w') : ST3 w' v B L ws rs := by
  obtain ⟨a, a', c, c', g, g', e, o, o', q⟩ := h
  exact ⟨a, a', c, c', g, g', e, o.up n, o'.up n, q⟩
def STh (B : Nat) (L : Int) (ws rs : List Int) : Fact := ⟨fun v w => ST3 w v B L ws rs, fun n h => h.up n⟩
theorem one3 (L : Int) (a a' : Option Addr) (m m' c c' : Nat) : ([.int .i64 L, .slice a m c, .slice a' m' c'] : List Value).toArray.all (·.oneCell') = true := all_oneCell_toArray fun v hv => by
  simp only [List.mem_cons, List.not_mem_nil, or_false] at hv
  rcases hv with rfl | rfl | rfl
  all_goals rfl
theorem there3 {w : World} {q : Nat} {x y z : Value} {t : TypeId} (h : w.heap[q]? = some (.cells #[x, y, z] t (0, 0))) : w.there q 0 3 := fun j hj => by
  rw [Nat.zero_add, cell_of_row _ _ _ _ _ _ h, frozen_of_row _ _ _ _ _ h]
  refine ⟨?_, rfl⟩
  obtain rfl | rfl | rfl : j = 0 ∨ j = 1 ∨ j = 2 := by omega
  all_goals rfl
theorem there_upn {W W' : World} {q n : Nat} (hn : 0 < n) (h : W.there q 0 n) (k : Below W.heap.size W W') : W'.there q 0 n := by
  have h0 := (h 0 hn).1
  rw [Option.isSome_iff_exists] at h0
  obtain ⟨v, hv⟩ := h0
  have l := block_lt_of_cell hv
  intro j hj
  rw [World.cell?_of_block (a := ⟨q, 0 + j, none⟩) (k.block q l), World.frozen?_of_block (a := ⟨q, 0 + j, none⟩) (k.block q l)]
  exact h j hj
/-- A region that ends with the storing of a row of which a fact tells. -/
theorem region_putF {P : Program} {ops : Array Oper} {Q : Exit → Act → World → Prop} {a0 : Act} {id : Nat} {draw : Bool} {w : World} (k jV pD pV : Nat) (o : Oper) (F : Nat → Fact) (q off : Nat) (ty : TypeId) (hm : P.follows .mixedOrders = true) (hT : textOk .any ops a0.tmps.size k = true) (hk : ops[k]? = some o) (hd : o.dst = none)
    (hop : o.op = .store ty (.tmp pD) (.tmp pV)) (hp : apart ops pD = true) (h0 : a0.tmps.getD pD undef = .pointer (some ⟨q, off, none⟩)) (wV : writes ops jV pV = true) (steps : ∀ i, i < k → StepOk P .any ops Q F a0 w i)
    (fin : ∀ (vs : Nat → Value) (W : World) (v : Value), Below w.heap.size w W → (F jV).p v W → ∃ cells : List Value, v = .agg cells.toArray ∧ W.there q off cells.length ∧ (P.info? ty).map (·.size) = some cells.length ∧ cells.toArray.all (·.oneCell') = true ∧ Q .normal (puts vs a0 ops.toList) (W.setCells q off cells)) : (Code.region id ops draw).wp P Q a0 w := by
  refine region_store k o F hm hT hk hd steps fun a W hb hw hF => ?_
  obtain ⟨vs, hvs⟩ : ∃ vs : Nat → Value, ∀ d, a.tmps.getD d undef = vs d := ⟨_, fun _ => rfl⟩
  obtain ⟨cells, hc, ht, hi, h1, hQ⟩ := fin vs W (a.tmps.getD pV undef) hw (hF jV pV wV)
  refine wp_store_mid ty (.tmp pD) (.tmp pV) hop q off cells.toArray ((based_at hb pD hp).trans h0) hc (by rw [List.size_toArray]; exact ht) (by rw [List.size_toArray]; exact hi) h1 ?_
  rw [hd]
  show Q .normal a _
  rw [puts_of hT rfl hb vs hvs]
  exact hQ
end Go.Proofs.YtnfciobpfiibcaaDoor
