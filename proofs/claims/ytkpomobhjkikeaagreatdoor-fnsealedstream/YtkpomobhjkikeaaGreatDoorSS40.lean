import Derived.Test.YtkpomobhjkikeaaGreatDoorSS38
import Derived.Test.YtkpomobhjkikeaaGreatDoorSS39
namespace Go.Proofs.YtkpomobhjkikeaaGreatDoor
set_option maxRecDepth 100000
open Go Go.RowKit Go.Shelf
attribute [local go_sem] Oper.semAt_some
def xr (a b : Int) : Int := bits BinOp.xor IntKind.u8 a b
def xorTo (zs : List Int) (o : Nat) (B : List Int) : Nat → List Int
  | 0 => zs
  | j + 1 => (xorTo zs o B j).set (o + j) (xr (zs.getD (o + j) 0) (B.getD j 0))
theorem xorTo_len (zs : List Int) (o : Nat) (B : List Int) : ∀ j, (xorTo zs o B j).length = zs.length
  | 0 => rfl
  | j + 1 => by rw [xorTo, List.length_set]; exact xorTo_len zs o B j
theorem xorTo_get (zs : List Int) (o : Nat) (B : List Int) (i : Nat) (hi : i < zs.length) : ∀ j, (xorTo zs o B j).getD i 0 = if o ≤ i ∧ i < o + j then xr (zs.getD i 0) (B.getD (i - o) 0) else zs.getD i 0
  | 0 => by rw [if_neg (by omega)]; rfl
  | j + 1 => by
    rw [xorTo]
    by_cases e : o + j = i
    · subst e
      rw [getD_set_self _ _ _ (by rw [xorTo_len]; exact hi), if_pos (by omega), show o + j - o = j by omega]
    · rw [getD_set_ne _ _ _ _ e, xorTo_get zs o B i hi j]
      by_cases h : o ≤ i ∧ i < o + j
      · rw [if_pos h, if_pos (by omega)]
      · rw [if_neg h, if_neg (by omega)]
def xoG (ys : List Int) (c : Int) (data : List Int) : Nat → List Int
  | 0 => data
  | k + 1 => xorTo (xoG ys c data k) (64 * k) (stB (ys.set 12 (c + (k : Int)))) (pcL64 data.length k)
theorem xoG_len (ys : List Int) (c : Int) (data : List Int) : ∀ k, (xoG ys c data k).length = data.length
  | 0 => rfl
  | k + 1 => by rw [xoG, xorTo_len]; exact xoG_len ys c data k
theorem xoG_get (ys : List Int) (c : Int) (data : List Int) (i : Nat) (hi : i < data.length) : ∀ k, (xoG ys c data k).getD i 0 = if i < 64 * k then xr (data.getD i 0) ((stB (ys.set 12 (c + ((i / 64 : Nat) : Int)))).getD (i % 64) 0) else data.getD i 0
  | 0 => by rw [if_neg (by omega)]; rfl
  | k + 1 => by
    rw [xoG, xorTo_get _ _ _ _ (by rw [xoG_len]; exact hi), xoG_get ys c data i hi k]
    unfold pcL64
    by_cases h : i < 64 * k
    · rw [if_neg (by omega), if_pos h, if_pos (by omega)]
    · rw [if_neg h]
      by_cases h2 : i < 64 * (k + 1)
      · rw [if_pos (by omega), if_pos h2, show i / 64 = k by omega, show i - 64 * k = i % 64 by omega]
      · rw [if_neg (by omega), if_neg h2]
section
variable {P : Program} {ops : Array Oper} {Q : Exit → Act → World → Prop} {n l : Nat} {rest : List Oper} {o : Oper} {a : Act} {w : World}
theorem listIn_op (hgd : o.guard = none) (hd : ∀ c, o.op ≠ .defer c) (h : ∀ K : Act → World → Prop, (∀ a w, wpListIn (Fence.wide.inRound l) n P ops Q rest a w → K a w) → o.wp P a w K Q) : wpListIn (Fence.wide.inRound l) n P ops Q (o :: rest) a w :=
  wpListIn_plain hgd fun K hK => op_in hd (h K hK)
theorem listIn_load (hgd : o.guard = none) (ty : TypeId) (x : Operand) (ho : o.op = .load ty x) (b off : Nat) (hx : a.eval x = .pointer (some ⟨b, off, none⟩)) (cs : List Value) (d : TypeDesc) (hc : w.rangeAt b off cs)
    (hu : P.underlying ty = some d) (hd : d.isRow = true) (hi : (P.info? ty).map (·.size) = some cs.length) (h : wpListIn (Fence.wide.inRound l) n P ops Q rest (a.put o.dst (.agg cs.toArray)) w) : wpListIn (Fence.wide.inRound l) n P ops Q (o :: rest) a w :=
  listIn_op hgd (by rw [ho]; intro c e; cases e) fun _ hK => wp_load_mid ty x ho b off hx cs d hc hu hd hi (hK _ _ h)
theorem listIn_store (hgd : o.guard = none) (ty : TypeId) (x y : Operand) (ho : o.op = .store ty x y)
    (g : Nat) (cells : Array Value) (hx : a.eval x = .pointer (some ⟨g, 0, none⟩)) (hy : a.eval y = .agg cells)
    (t : TypeId) (old : Array Value) (hg : w.heap[g]? = some (.cells old t (0, 0))) (hi : (P.info? ty).map (·.size) = some cells.size)
    (hold : old.size = cells.size) (h1 : cells.all (·.oneCell') = true)
    (h : wpListIn (Fence.wide.inRound l) n P ops Q rest (a.put o.dst undef) (w.setRow g cells)) : wpListIn (Fence.wide.inRound l) n P ops Q (o :: rest) a w :=
  listIn_op hgd (by rw [ho]; intro c e; cases e) fun _ hK => wp_store_row ty x y ho g cells hx hy t old hg hi hold h1 (hK _ _ h)
end
theorem rowU8 : (Tryz.prog.info? 5).map (·.size) = some 1 := by kernel_rfl
end Go.Proofs.YtkpomobhjkikeaaGreatDoor
