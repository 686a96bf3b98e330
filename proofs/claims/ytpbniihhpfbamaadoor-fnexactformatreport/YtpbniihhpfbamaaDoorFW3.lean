import Derived.Test.YtpbniihhpfbamaaDoorFW2
import Derived.Laws.AppendOwnNone
import Derived.Maps.AppendAt
import Derived.Lib.AppendZeros
import Derived.Lib.Bytealg
import Derived.Test.YtpbniihhpfbamaaDoorFW1
import Derived.Deep.MidRow
import Derived.Deep.Cut

/-
  The model's labels.
-/
namespace Go.Proofs.YtpbniihhpfbamaaDoor
set_option maxRecDepth 100000
open Go Go.RowKit

/-- A row of texts that the walk owns. -/
def RowT (w : World) (base : Nat) (v : Value) (ls : List (List UInt8)) : Prop := w.ownsRow base 9 1 v ls.length (ls.map tx)
theorem tx_one (ls : List (List UInt8)) : ∀ u ∈ ls.map tx, u.oneCell' = true := by
  intro u hu
  obtain ⟨x, _, rfl⟩ := List.mem_map.1 hu
  rfl
set_option maxRecDepth 100000 in
theorem infoTx : (Tryd.prog.info? 9).map (fun i => (i.zero, i.size, i.bytes)) = some (some (.string ⟨#[]⟩), 1, 16) := by kernel_rfl
set_option maxRecDepth 100000 in
theorem undTx : Tryd.prog.underlying 48 = some (.slice 9) := Tryd.underlying48
theorem RowT.lit1 (w : World) (l : List UInt8) : RowT (w.alloc (.cells #[tx l] 9)) w.heap.size (.slice (some ⟨w.heap.size, 0, none⟩) 1 1) [l] :=
  World.ownsRow_lit w #[tx l] 1 (Nat.le_refl _) (by unfold maxLen; omega) (by simp)
set_option maxRecDepth 100000 in
/-- One text more. -/
theorem append_tx (w : World) (ty : TypeId) (base : Nat) (v : Value) (ls : List (List UInt8)) (hown : RowT w base v ls) (l : List UInt8) (hl : ls.length ≤ 1000000) (hbase : base ≤ w.heap.size) :
    ∃ v' w', (Builtin.append_ #[48, 48] ty #[v, .slice (some ⟨w.heap.size, 0, none⟩) 1 1]).run Tryd.prog (w.alloc (.cells #[tx l] 9)) = .ok v' w' ∧ RowT w' base v' (ls ++ [l]) ∧ Below base w w' := by
  obtain ⟨i, hi, hz, hs, hb⟩ := info_parts infoTx
  have h0 : RowT (w.alloc (.cells #[tx l] 9)) base v ls := World.ownsRow.alloc hown _
  have m1 : Below base w (w.alloc (.cells #[tx l] 9)) := (Below.refl _ _).alloc hbase _
  obtain ⟨v', w', h1, h2, h3, _⟩ := run_append_own (P := Tryd.prog) (w.alloc (.cells #[tx l] 9)) base 48 ty 9 i (.string ⟨#[]⟩) 1 16 undTx hi hz hs hb rfl (by decide) v ls.length (ls.map tx) h0 ⟨w.heap.size, 0, none⟩ 1 1 [tx l] (by simp) (cell_one_new w (tx l) 9) (by simp [tx, Value.oneCell']) (by unfold maxLen; omega) (by omega) (by simp; omega)
  refine ⟨v', w', h1, ?_, m1.grown h3 (by simp; omega) (fun k hk => by have := (World.ownsRow.lt h0 k hk).1; omega)⟩
  show w'.ownsRow base 9 1 v' (ls ++ [l]).length ((ls ++ [l]).map tx)
  rw [List.length_append, List.map_append]
  exact h2
theorem RowT.cells {w : World} {base : Nat} {v : Value} {ls : List (List UInt8)} (h : RowT w base v ls) (h0 : 0 < ls.length) : ∃ g c, v = .slice (some ⟨g, 0, none⟩) ls.length c ∧ base ≤ g ∧ g < w.heap.size ∧ (∀ i, i < ls.length → w.cell? ⟨g, i, none⟩ = some (tx (ls.getD i []))) ∧ ∀ i, w.frozen? ⟨g, i, none⟩ = false := by
  rcases h.2 with ⟨_, h'⟩ | ⟨g, cap, cur, rfl, hb, hg, hnc, hcm, hcs, ht⟩
  · omega
  · refine ⟨g, cap, rfl, hb, (Array.getElem?_eq_some_iff.1 hg).1, fun i hi => ?_, fun i => frozen_of_row w g i cur 9 hg⟩
    rw [cell_of_row w g i cur 9 (0, 0) hg]
    have : (cur.toList.take (ls.length * 1))[i]? = (ls.map tx)[i]? := by rw [ht]
    rw [List.getElem?_take, if_pos (by omega)] at this
    simpa [hi] using this
theorem set_snoc {α : Type} : ∀ (a : List α) (x y : α), (a ++ [x]).set a.length y = a ++ [y]
  | [], _, _ => rfl
  | b :: a, x, y => congrArg (List.cons b) (set_snoc a x y)
/-- The last text is replaced. -/
theorem RowT.setLast {w : World} {base g c : Nat} {ls : List (List UInt8)} {l : List UInt8} (h : RowT w base (.slice (some ⟨g, 0, none⟩) (ls.length + 1) c) (ls ++ [l])) (l' : List UInt8) (n : Nat) : RowT ((w.drewN n).setCell ⟨g, ls.length, none⟩ (tx l')) base (.slice (some ⟨g, 0, none⟩) (ls.length + 1) c) (ls ++ [l']) := by
  refine ⟨by simp, ?_⟩
  rcases h.2 with ⟨h', _⟩ | ⟨g', cap, cur, e, hb, hg, hnc, hcm, hcs, ht⟩
  · simp at h'
  · simp only [Value.slice.injEq, Option.some.injEq, Addr.mk.injEq, and_true] at e
    obtain ⟨rfl, e2, rfl⟩ := e
    refine .inr ⟨g, c, cur.setIfInBounds ls.length (tx l'), by simp, hb, ?_, by simpa using hnc, hcm, by simpa using hcs, ?_⟩
    · exact heap_setCell_same (w.drewN n) g ls.length cur 9 (tx l') hg
    · simp only [List.length_append, List.length_cons, List.length_nil, Nat.mul_one, List.map_append, List.map_cons, List.map_nil] at ht ⊢
      rw [Array.toList_setIfInBounds, List.take_set, ht]
      have e3 : ls.length = (ls.map tx).length := by simp
      rw [e3]
      exact set_snoc _ _ _
theorem RowT.up {w w' : World} {base : Nat} {v : Value} {ls : List (List UInt8)} (h : RowT w base v ls) (hb : Below w.heap.size w w') : RowT w' base v ls := by
  refine ⟨h.1, ?_⟩
  rcases h.2 with h' | ⟨g, cap, cur, rfl, hbg, hg, hnc, hcm, hcs, ht⟩
  · exact .inl h'
  · exact .inr ⟨g, cap, cur, rfl, hbg, by rw [hb.block g ((Array.getElem?_eq_some_iff.1 hg).1)]; exact hg, hnc, hcm, hcs, ht⟩

/-- A row of texts that the call made. -/
def NewT1 (B : Nat) (w' : World) (e : Ending) (ls : List (List UInt8)) : Prop := ∃ v, e = .returned v ∧ RowT w' B v ls
theorem labs_snoc (l : List UInt8) (c : UInt8) : labs (l ++ [c]) = if (c.toNat : Int) = 46 then labs l ++ [[]] else (lst l).1 ++ [(lst l).2 ++ [c]] := by
  unfold labs
  rw [lst_snoc]
  unfold stp
  split <;> simp
theorem lst_len (l : List UInt8) : (lst l).1.length ≤ l.length := by
  revert l
  refine snoc_ind (by simp [lst]) ?_
  intro l c ih
  rw [lst_snoc]
  unfold stp
  split
  · simp; omega
  · simp; omega
set_option maxRecDepth 100000 in
theorem buildT (w : World) (l : List UInt8) : (Instr.buildSlice 48 1 #[(0, .string ⟨⟨l⟩⟩)]).run Tryd.prog w = .ok (.slice (some ⟨w.heap.size, 0, none⟩) 1 1) (w.alloc (.cells #[tx l] 9)) := by kernel_rfl

end Go.Proofs.YtpbniihhpfbamaaDoor

/-
  The model's NameFault, and the law.
-/
namespace Go.Proofs.YtpbniihhpfbamaaDoor
set_option maxRecDepth 100000
open Go Go.RowKit

theorem ff_take {ls : List (List UInt8)} {k : Nat} (hk : k < ls.length) (h : ff (ls.take k) = 0) : ff (ls.take (k + 1)) = lbFz (ls.getD k []) ∧ (lbFz (ls.getD k []) ≠ 0 → ff ls = lbFz (ls.getD k [])) := by
  have e : ls.take (k + 1) = ls.take k ++ [ls.getD k []] := by
    rw [List.take_succ_eq_append_getElem hk]
    congr 2
    simp [hk]
  have e1 : ff (ls.take (k + 1)) = lbFz (ls.getD k []) := by rw [e, ff_app, if_pos h, ff_one]
  refine ⟨e1, fun hne => ?_⟩
  rw [← List.take_append_drop (k + 1) ls, ff_app, e1, if_neg hne]
  rw [List.take_append_drop]
theorem bad_take {l : List UInt8} {m : Nat} (hm : m < l.length) : bad (l.take (m + 1)) = (bad (l.take m) || !okB (l.getD m 0)) := by
  have e : l.take (m + 1) = l.take m ++ [l.getD m 0] := by
    rw [List.take_succ_eq_append_getElem hm]
    congr 2
    simp [hm]
  rw [e, bad_snoc]
theorem bad_of {l : List UInt8} {m : Nat} (hm : m < l.length) (h : okB (l.getD m 0) = false) : bad l = true := by
  unfold bad
  rw [List.any_eq_true]
  refine ⟨l.getD m 0, ?_, by rw [h]; rfl⟩
  simp [hm]

end Go.Proofs.YtpbniihhpfbamaaDoor

/-
  Patterns: what is wrong with them; the program's and the model's PatternFault.
-/
namespace Go.Proofs.YtpbniihhpfbamaaDoor
set_option maxRecDepth 100000
open Go Go.RowKit

def star (l : List UInt8) : Bool := decide (l.take 2 = [42, 46])
/-- A point, anywhere. -/
def dot (l : List UInt8) : Bool := l.any fun c => decide ((c.toNat : Int) = 46)
def patF (l : List UInt8) : Int := if star l = true then (if 128 < l.length then 1 else if nameF (l.drop 2) ≠ 0 then nameF (l.drop 2) else if dot (l.drop 2) = true then 0 else 6) else nameF l
theorem star_len {l : List UInt8} (h : star l = true) : 2 ≤ l.length := by
  unfold star at h
  have h := of_decide_eq_true h
  have := congrArg List.length h
  rw [List.length_take] at this
  simp at this
  omega
theorem dot_lst (l : List UInt8) : (lst l).1.length = 0 ↔ dot l = false := by
  revert l
  refine snoc_ind (by simp [lst, dot]) ?_
  intro l c ih
  rw [lst_snoc]
  unfold stp
  have e : dot (l ++ [c]) = (dot l || decide ((c.toNat : Int) = 46)) := by simp [dot]
  rw [e]
  split
  · rename_i h
    simp [h]
  · rename_i h
    simp only [decide_eq_false h, Bool.or_false]
    exact ih
theorem labs_two (l : List UInt8) : decide (((labs l).length : Int) < 2) = !dot l := by
  have h := dot_lst l
  unfold labs
  cases hd : dot l with
  | true =>
    have : ¬ (lst l).1.length = 0 := fun k => by rw [h.1 k] at hd; cases hd
    simp
    omega
  | false =>
    have := h.2 hd
    simp
    omega
end Go.Proofs.YtpbniihhpfbamaaDoor

/-
  The program's PatternFault.
-/
namespace Go.Proofs.YtpbniihhpfbamaaDoor
set_option maxRecDepth 100000
open Go Go.RowKit

theorem idx_dot : ∀ l : List UInt8, Lib.indexByte l 46 < 0 ↔ dot l = false
  | [] => by simp [Lib.indexByte, dot]
  | c :: l => by
    have ih := idx_dot l
    have ge := Lib.indexByte_ge l 46
    have e : dot (c :: l) = (decide ((c.toNat : Int) = 46) || dot l) := by simp [dot]
    rw [e]
    unfold Lib.indexByte
    by_cases h : c = 46
    · subst h
      simp
    · have h1 : ¬ ((c.toNat : Int) = 46) := fun k => h (by
        have : c.toNat = 46 := by omega
        exact UInt8.toNat.inj (by rw [this]; rfl))
      have h2 : (c == 46) = false := by simpa using h
      rw [h2, decide_eq_false h1, Bool.false_or, ← ih]
      simp only [Bool.false_eq_true, if_false]
      split
      · rename_i k
        have : Lib.indexByte l 46 = -1 := by simpa using k
        omega
      · rename_i k
        have : Lib.indexByte l 46 ≠ -1 := by simpa using k
        omega

end Go.Proofs.YtpbniihhpfbamaaDoor

/-
  Names inside one another, and patterns that match: bytes alone.
-/
namespace Go.Proofs.YtpbniihhpfbamaaDoor
set_option maxRecDepth 100000
open Go

/-- Labels put together again. -/
def unl : List (List UInt8) → List UInt8
  | [] => []
  | [l] => l
  | l :: m :: ls => l ++ 46 :: unl (m :: ls)
theorem unl_cons (l : List UInt8) {Y : List (List UInt8)} (h : Y ≠ []) : unl (l :: Y) = l ++ 46 :: unl Y := by
  cases Y with
  | nil => exact absurd rfl h
  | cons m ls => rfl
theorem unl_app : ∀ (X Y : List (List UInt8)), X ≠ [] → Y ≠ [] → unl (X ++ Y) = unl X ++ 46 :: unl Y
  | [], _, h, _ => absurd rfl h
  | [x], Y, _, h => unl_cons x h
  | x :: y :: X, Y, _, h => by
    have ih := unl_app (y :: X) Y (by simp) h
    show x ++ 46 :: unl ((y :: X) ++ Y) = _
    rw [ih]
    show _ = (x ++ 46 :: unl (y :: X)) ++ 46 :: unl Y
    simp
theorem unl_grow (X : List (List UInt8)) (y : List UInt8) (c : UInt8) : unl (X ++ [y ++ [c]]) = unl (X ++ [y]) ++ [c] := by
  by_cases h : X = []
  · subst h
    rfl
  · rw [unl_app X _ h (by simp), unl_app X [y] h (by simp)]
    show _ ++ 46 :: (y ++ [c]) = (_ ++ 46 :: y) ++ [c]
    simp
theorem dot46 {c : UInt8} (h : (c.toNat : Int) = 46) : c = 46 := UInt8.toNat.inj (by
  have : c.toNat = 46 := by omega
  rw [this]; rfl)
theorem labs_ne (l : List UInt8) : labs l ≠ [] := by unfold labs; simp
theorem unl_labs (l : List UInt8) : unl (labs l) = l := by
  revert l
  refine snoc_ind rfl ?_
  intro l c ih
  rw [labs_snoc]
  split
  · rename_i h
    rw [unl_app _ _ (labs_ne l) (by simp), ih, dot46 h]
    rfl
  · rw [unl_grow]
    show unl (labs l) ++ [c] = _
    rw [ih]
theorem lst_cat (x a : List UInt8) : lst (x ++ 46 :: a) = (labs x ++ (lst a).1, (lst a).2) := by
  revert a
  refine snoc_ind ?_ ?_
  · rw [lst_dot x 46 (by decide)]
    simp [lst]
  · intro a c ih
    have e : x ++ 46 :: (a ++ [c]) = (x ++ 46 :: a) ++ [c] := by simp
    rw [e, lst_snoc, ih, lst_snoc]
    unfold stp
    split <;> simp
theorem labs_cat (x a : List UInt8) : labs (x ++ 46 :: a) = labs x ++ labs a := by
  unfold labs
  rw [lst_cat]
  simp [labs]
/-- Inside, by bytes. -/
def inS (n a : List UInt8) : Bool := decide (n = a) || (46 :: a).isSuffixOf n
theorem inS_labs (n a : List UInt8) : inS n a = true ↔ labs a <:+ labs n := by
  unfold inS
  rw [Bool.or_eq_true, decide_eq_true_eq, List.isSuffixOf_iff_suffix]
  constructor
  · rintro (rfl | ⟨x, rfl⟩)
    · exact List.suffix_refl _
    · rw [labs_cat]
      exact List.suffix_append _ _
  · rintro ⟨X, h⟩
    by_cases hX : X = []
    · subst hX
      left
      have := congrArg unl h
      simp only [List.nil_append, unl_labs] at this
      exact this.symm
    · right
      have := congrArg unl h
      rw [unl_app _ _ hX (labs_ne a), unl_labs, unl_labs] at this
      exact ⟨unl X, this⟩
/-- Labels held against each other from the end. -/
def tailEq (n a : List (List UInt8)) (k : Nat) : Prop := ∀ i, i < k → a.getD (a.length - 1 - i) [] = n.getD (n.length - 1 - i) []
theorem tail_suffix {n a : List (List UInt8)} (hl : a.length ≤ n.length) : tailEq n a a.length ↔ a <:+ n := by
  constructor
  · intro h
    refine ⟨n.take (n.length - a.length), ?_⟩
    have e : a = n.drop (n.length - a.length) := by
      apply List.ext_getElem
      · rw [List.length_drop]; omega
      · intro i h1 h2
        have := h (a.length - 1 - i) (by omega)
        rw [show a.length - 1 - (a.length - 1 - i) = i by omega, show n.length - 1 - (a.length - 1 - i) = n.length - a.length + i by omega] at this
        simp only [List.getD, List.getElem?_eq_getElem h1, Option.getD_some] at this
        rw [List.getElem_drop]
        rw [this, List.getElem?_eq_getElem (by omega), Option.getD_some]
    calc n.take (n.length - a.length) ++ a = n.take (n.length - a.length) ++ n.drop (n.length - a.length) := by rw [← e]
      _ = n := List.take_append_drop _ _
  · rintro ⟨X, rfl⟩ i hi
    rw [List.length_append] at *
    simp only [List.getD]
    rw [List.getElem?_append_right (by omega)]
    congr 2
    omega
theorem suffix_le {n a : List UInt8} (h : inS n a = true) : (labs a).length ≤ (labs n).length := ((inS_labs n a).1 h).length_le
/-- The first label, and what stands behind its point. -/
theorem dotless {l : List UInt8} (h : dot l = false) : labs l = [l] := by
  have h0 := (dot_lst l).2 h
  have h1 := unl_labs l
  unfold labs at h1 ⊢
  have h2 : (lst l).1 = [] := List.length_eq_zero_iff.1 h0
  rw [h2] at h1 ⊢
  show [(lst l).2] = [l]
  rw [show (lst l).2 = l from h1]
theorem idx_split : ∀ l : List UInt8, 0 ≤ Lib.indexByte l 46 → (Lib.indexByte l 46).toNat < l.length ∧ dot (l.take (Lib.indexByte l 46).toNat) = false ∧ l = l.take (Lib.indexByte l 46).toNat ++ 46 :: l.drop ((Lib.indexByte l 46).toNat + 1)
  | [], h => by simp [Lib.indexByte] at h
  | c :: l, h => by
    have ge := Lib.indexByte_ge l 46
    have ih := idx_split l
    unfold Lib.indexByte at h ⊢
    by_cases hc : c = 46
    · subst hc
      simp [dot]
    · have h2 : (c == 46) = false := by simpa using hc
      simp only [h2, Bool.false_eq_true, if_false] at h ⊢
      by_cases k : Lib.indexByte l 46 = -1
      · rw [k] at h
        simp at h
      · have k2 : (Lib.indexByte l 46 == -1) = false := by simpa using k
        simp only [k2, Bool.false_eq_true, if_false]
        obtain ⟨a, b, e⟩ := ih (by omega)
        have e2 : (Lib.indexByte l 46 + 1).toNat = (Lib.indexByte l 46).toNat + 1 := by omega
        rw [e2]
        refine ⟨by simpa using a, ?_, ?_⟩
        · have : dot (List.take ((Lib.indexByte l 46).toNat + 1) (c :: l)) = (decide ((c.toNat : Int) = 46) || dot (l.take (Lib.indexByte l 46).toNat)) := by simp [dot]
          rw [this, b, Bool.or_false]
          exact decide_eq_false fun q => hc (dot46 q)
        · show c :: l = c :: (l.take _ ++ 46 :: l.drop _)
          rw [← e]
/-- What stands behind the first point. -/
def beh (h : List UInt8) : List UInt8 := if 0 ≤ Lib.indexByte h 46 then h.drop ((Lib.indexByte h 46).toNat + 1) else []
/-- Matches, by bytes. -/
def mtS (p h : List UInt8) : Bool := if star p = true then decide ((labs h).getD 0 [] ++ 46 :: p.drop 2 = h) else decide (p = h)
theorem beh_mt {h n : List UInt8} (hn : n ≠ []) : decide ((labs h).getD 0 [] ++ 46 :: n = h) = decide (beh h = n) := by
  unfold beh
  by_cases k : 0 ≤ Lib.indexByte h 46
  · rw [if_pos k]
    obtain ⟨_, b, e⟩ := idx_split h k
    generalize (Lib.indexByte h 46).toNat = m at *
    have L : labs h = [h.take m] ++ labs (h.drop (m + 1)) := by
      rw [← dotless b, ← labs_cat, ← e]
    rw [L]
    have g : ([h.take m] ++ labs (h.drop (m + 1))).getD 0 [] = h.take m := rfl
    rw [g]
    congr 1
    apply propext
    constructor
    · intro q
      have q2 : h.take m ++ 46 :: n = h.take m ++ 46 :: h.drop (m + 1) := q.trans e
      exact ((List.cons.inj (List.append_cancel_left q2)).2).symm
    · intro q
      rw [← q]
      exact e.symm
  · rw [if_neg k]
    have d : dot h = false := (idx_dot h).1 (by omega)
    rw [dotless d]
    show decide (h ++ 46 :: n = h) = _
    rw [decide_eq_false, decide_eq_false]
    · exact fun q => hn q.symm
    · intro q
      have := congrArg List.length q
      simp at this
/-- NameMatches, NameInside, PatternOutside. -/
def nmB (p h : List UInt8) : Bool := decide (patF p = 0) && decide (nameF h = 0) && mtS p h
def niB (n a : List UInt8) : Bool := decide (nameF n = 0) && decide (nameF a = 0) && inS n a
def bas (p : List UInt8) : List UInt8 := if star p = true then p.drop 2 else p
def poB (p : List UInt8) (pm ex : List (List UInt8)) : Bool := decide (patF p ≠ 0) || (decide (pm ≠ []) && !pm.any (niB (bas p))) || ex.any fun a => niB (bas p) a || (star p && nmB p a)
theorem nameF_len {l : List UInt8} (h : nameF l = 0) : 1 ≤ l.length ∧ l.length ≤ 128 := by
  unfold nameF at h
  split at h
  · cases h
  · omega
theorem patF_name {p : List UInt8} (hs : star p = true) (h : patF p = 0) : nameF (p.drop 2) = 0 ∧ dot (p.drop 2) = true ∧ p.length ≤ 128 := by
  unfold patF at h
  rw [if_pos hs] at h
  split at h
  · cases h
  · split at h
    · rename_i _ q
      exact absurd h q
    · split at h
      · rename_i a b c
        exact ⟨by simpa using b, c, by omega⟩
      · cases h
theorem patF_plain {p : List UInt8} (hs : star p = false) : patF p = nameF p := by
  unfold patF
  rw [if_neg (by rw [hs]; decide)]
end Go.Proofs.YtpbniihhpfbamaaDoor

/-
  The program's NameMatches and NameInside.
-/
namespace Go.Proofs.YtpbniihhpfbamaaDoor
set_option maxRecDepth 100000
open Go Go.RowKit

theorem suf_iff (n a : List UInt8) : decide (n.drop (n.length - a.length) = a) = a.isSuffixOf n := by
  rw [Bool.eq_iff_iff, decide_eq_true_eq, List.isSuffixOf_iff_suffix]
  constructor
  · intro e
    have := List.take_append_drop (n.length - a.length) n
    rw [e] at this
    exact ⟨_, this⟩
  · rintro ⟨x, rfl⟩
    simp
theorem suf_none (n a : List UInt8) (h : n.length < a.length) : a.isSuffixOf n = false := by
  cases k : a.isSuffixOf n with
  | false => rfl
  | true =>
    have := (List.isSuffixOf_iff_suffix.1 k).length_le
    omega
theorem beq_dec (a b : List UInt8) : (a == b) = decide (a = b) := by
  rw [Bool.eq_iff_iff]
  simp

/-- What stands ahead of the first point. -/
def ahd (h : List UInt8) : List UInt8 := if 0 ≤ Lib.indexByte h 46 then h.take (Lib.indexByte h 46).toNat else h
end Go.Proofs.YtpbniihhpfbamaaDoor

/-
  The model's PatternFault, and the law.
-/
namespace Go.Proofs.YtpbniihhpfbamaaDoor
set_option maxRecDepth 100000
open Go Go.RowKit

end Go.Proofs.YtpbniihhpfbamaaDoor

/-
  The program's and the model's NameMatches, and the law.
-/
namespace Go.Proofs.YtpbniihhpfbamaaDoor
set_option maxRecDepth 100000
open Go Go.RowKit

theorem tx_add (w : World) (a b : List UInt8) (h : a.length + b.length ≤ 9223372036854775807) : (Op.stringOp .add (ByteArray.mk ⟨a⟩) (ByteArray.mk ⟨b⟩)).run Tryd.prog w = .ok (.string ⟨⟨a ++ b⟩⟩) w := by
  rw [run_string_add_sum w _ _ (by rw [tx_size, tx_size]; exact h)]
  have := ByteArray.mk_append_mk a b
  exact congrArg (fun s => Result.ok (Value.string s) w) this
theorem lab_len (l x : List UInt8) (h : x ∈ labs l) : x.length ≤ l.length := by
  have aux : ∀ (ls : List (List UInt8)), x ∈ ls → x.length ≤ (unl ls).length := by
    intro ls
    induction ls with
    | nil => intro k; cases k
    | cons y ys ih =>
      intro k
      cases ys with
      | nil =>
        rcases List.mem_cons.1 k with rfl | k
        · exact Nat.le_refl _
        · cases k
      | cons z zs =>
        rw [unl_cons y (by simp)]
        rcases List.mem_cons.1 k with rfl | k
        · simp
        · have := ih k
          simp only [List.length_append, List.length_cons]
          omega
  have := aux _ h
  rwa [unl_labs] at this
end Go.Proofs.YtpbniihhpfbamaaDoor

/-
  The program's and the model's NameInside, and the law.
-/
namespace Go.Proofs.YtpbniihhpfbamaaDoor
set_option maxRecDepth 100000
open Go Go.RowKit

theorem tail_step {n a : List (List UInt8)} {k : Nat} (h : tailEq n a k) (h1 : a.getD (a.length - 1 - k) [] = n.getD (n.length - 1 - k) []) : tailEq n a (k + 1) := by
  intro i hi
  by_cases e : i = k
  · subst e
    exact h1
  · exact h i (by omega)
end Go.Proofs.YtpbniihhpfbamaaDoor

/-
  Rows of texts that are read; the laws' helpers on them.
-/
namespace Go.Proofs.YtpbniihhpfbamaaDoor
set_option maxRecDepth 100000
open Go Go.RowKit

/-- The cells of a row of texts that is read: if it has elements, they lie in block g. -/
def RdT (w : World) (g : Nat) (a : Option Addr) (ls : List (List UInt8)) : Prop :=
  0 < ls.length → ∃ off, a = some ⟨g, off, none⟩ ∧ ∀ i, i < ls.length → w.cell? ⟨g, off + i, none⟩ = some (tx (ls.getD i []))
theorem RdT.nil (w : World) (g : Nat) (a : Option Addr) : RdT w g a [] := fun h => absurd h (by simp)
theorem RdT.lt {w : World} {g : Nat} {a : Option Addr} {ls : List (List UInt8)} (h : RdT w g a ls) (h0 : 0 < ls.length) : g < w.heap.size := by
  obtain ⟨off, ha, hc⟩ := h h0
  exact block_lt_of_cell (hc 0 h0)
theorem RdT.of_block {w w' : World} {g : Nat} {a : Option Addr} {ls : List (List UInt8)} (h : RdT w g a ls) (hb : w'.heap[g]? = w.heap[g]?) : RdT w' g a ls := by
  intro h0
  obtain ⟨off, ha, hc⟩ := h h0
  exact ⟨off, ha, fun i hi => (World.cell?_of_block (a := ⟨g, off + i, none⟩) hb).trans (hc i hi)⟩
theorem RdT.up {w w' : World} {g : Nat} {a : Option Addr} {ls : List (List UInt8)} (h : RdT w g a ls) (hb : Below w.heap.size w w') : RdT w' g a ls := by
  by_cases h0 : 0 < ls.length
  · exact h.of_block (hb.block g (h.lt h0))
  · exact fun h1 => absurd h1 h0
/-- Block g holds just these texts. -/
def BlkT (w : World) (g : Nat) (ls : List (List UInt8)) : Prop := w.heap[g]? = some (.cells (ls.map tx).toArray 9 (0, 0))
theorem BlkT.lt {w : World} {g : Nat} {ls : List (List UInt8)} (h : BlkT w g ls) : g < w.heap.size := (Array.getElem?_eq_some_iff.1 h).1
theorem BlkT.cell {w : World} {g : Nat} {ls : List (List UInt8)} (h : BlkT w g ls) {i : Nat} (hi : i < ls.length) : w.cell? ⟨g, i, none⟩ = some (tx (ls.getD i [])) := by
  rw [cell_of_row w g i _ 9 (0, 0) h]
  simp [hi]
theorem BlkT.free {w : World} {g : Nat} {ls : List (List UInt8)} (h : BlkT w g ls) (i : Nat) : w.frozen? ⟨g, i, none⟩ = false := frozen_of_row w g i _ 9 h
theorem BlkT.store {w : World} {g : Nat} {ls : List (List UInt8)} (h : BlkT w g ls) (i : Nat) (z : List UInt8) : BlkT (w.setCell ⟨g, i, none⟩ (tx z)) g (ls.set i z) := by
  show _ = _
  rw [heap_setCell_same w g i _ 9 _ h]
  simp [List.map_set]
theorem BlkT.rd {w : World} {g : Nat} {ls : List (List UInt8)} (h : BlkT w g ls) : RdT w g (some ⟨g, 0, none⟩) ls := fun _ => ⟨0, rfl, fun i hi => by rw [Nat.zero_add]; exact h.cell hi⟩
theorem BlkT.up {w w' : World} {g : Nat} {ls : List (List UInt8)} (h : BlkT w g ls) (hb : Below w.heap.size w w') : BlkT w' g ls := (hb.block g h.lt).trans h
theorem BlkT.of_made {w : World} {base : Nat} {g n : Nat} (h : w.ownsRow base 9 1 (.slice (some ⟨g, 0, none⟩) n n) n (madeCells (Value.string ⟨#[]⟩).cells (n * 1)).toList) : BlkT w g (List.replicate n []) := by
  rcases h.2 with ⟨h', _⟩ | ⟨g', cap', cur, h', _, hg, _, _, hcs, htake⟩
  · simp at h'
  · simp only [Value.slice.injEq, Option.some.injEq, Addr.mk.injEq, and_true, true_and] at h'
    obtain ⟨rfl, rfl⟩ := h'
    show _ = _
    rw [hg]
    have : cur = ((List.replicate n ([] : List UInt8)).map tx).toArray := by
      apply Array.ext'
      rw [List.take_of_length_le (by rw [Array.length_toList, hcs]; exact Nat.le_refl _)] at htake
      rw [htake]
      apply List.ext_getElem
      · simp [madeCells]
      · intro i h1 h2
        simp [madeCells, Value.cells, tx, Nat.mod_one]
    rw [this]
def CopT (xs ys : List (List UInt8)) (k : Nat) : Prop := ys.length = xs.length ∧ ys.take k = xs.take k
theorem CopT.step {xs ys : List (List UInt8)} {k : Nat} (h : CopT xs ys k) (hk : k < xs.length) : CopT xs (ys.set k (xs.getD k [])) (k + 1) := by
  refine ⟨by simpa using h.1, ?_⟩
  have hk' : k < ys.length := by rw [h.1]; exact hk
  rw [List.take_succ_eq_append_getElem (by simpa using hk'), List.take_succ_eq_append_getElem hk, List.take_set]
  rw [List.getElem_set_self, List.set_eq_of_length_le (by rw [List.length_take]; omega), h.2]
  simp [hk]

/-- The bytes of all texts. -/
def sumT (ls : List (List UInt8)) : Nat := ls.foldr (fun l s => l.length + s) 0
theorem sumT_cons (l : List UInt8) (ls : List (List UInt8)) : sumT (l :: ls) = l.length + sumT ls := rfl
theorem sumT_app (x y : List (List UInt8)) : sumT (x ++ y) = sumT x + sumT y := by
  induction x with
  | nil => simp [sumT]
  | cons a x ih => rw [List.cons_append, sumT_cons, sumT_cons, ih, Nat.add_assoc]
theorem sumT_take {ls : List (List UInt8)} {k : Nat} (h : k < ls.length) : sumT (ls.take (k + 1)) = sumT (ls.take k) + (ls.getD k []).length := by
  have e : ls.take (k + 1) = ls.take k ++ [ls.getD k []] := by
    rw [List.take_succ_eq_append_getElem h]
    congr 2
    simp [h]
  rw [e, sumT_app]
  simp [sumT]
theorem sumT_le {ls : List (List UInt8)} (k : Nat) : sumT (ls.take k) ≤ sumT ls := by
  have := sumT_app (ls.take k) (ls.drop k)
  rw [List.take_append_drop] at this
  omega
theorem sumT_mem {ls : List (List UInt8)} {l : List UInt8} (h : l ∈ ls) : l.length ≤ sumT ls := by
  induction ls with
  | nil => cases h
  | cons a ls ih =>
    rw [sumT_cons]
    rcases List.mem_cons.1 h with rfl | h
    · omega
    · have := ih h
      omega
/-- What is left of a number of places. -/
def leftT (L : Int) (ls : List (List UInt8)) : Int := if L < (ls.length : Int) + (sumT ls : Int) then -1 else L - ls.length - sumT ls
theorem leftT_ge (L : Int) (ls : List (List UInt8)) : -1 ≤ leftT L ls := by
  unfold leftT
  split <;> omega
end Go.Proofs.YtpbniihhpfbamaaDoor

/-
  Blocks of just these cells; a struct copied field by field. No program in sight.
-/
namespace Go.Proofs.YtpbniihhpfbamaaDoor
set_option maxRecDepth 100000
open Go Go.RowKit

/-- A block of just these cells. -/
def RwC (w : World) (q : Nat) (cs : List Value) (t : TypeId) : Prop := w.heap[q]? = some (.cells cs.toArray t (0, 0))
theorem RwC.new (w : World) (cs : List Value) (t : TypeId) : RwC (w.alloc (.cells cs.toArray t)) w.heap.size cs t := heap_alloc_new w _
theorem RwC.lt {w : World} {q : Nat} {cs : List Value} {t : TypeId} (h : RwC w q cs t) : q < w.heap.size := (Array.getElem?_eq_some_iff.1 h).1
theorem RwC.up {w w' : World} {q : Nat} {cs : List Value} {t : TypeId} (h : RwC w q cs t) (n : Below w.heap.size w w') : RwC w' q cs t := (n.block q h.lt).trans h
theorem RwC.cell {w : World} {q : Nat} {cs : List Value} {t : TypeId} (h : RwC w q cs t) (i : Nat) : w.cell? ⟨q, i, none⟩ = cs[i]? := by
  rw [cell_of_row w q i _ _ (0, 0) h]
  simp
theorem RwC.free {w : World} {q : Nat} {cs : List Value} {t : TypeId} (h : RwC w q cs t) (i : Nat) : w.frozen? ⟨q, i, none⟩ = false := frozen_of_row w q i _ t h
theorem RwC.set {w : World} {q : Nat} {cs : List Value} {t : TypeId} (h : RwC w q cs t) (i : Nat) (v : Value) : RwC (w.setCell ⟨q, i, none⟩ v) q (cs.set i v) t := by
  show (w.heap.modify q _)[q]? = _
  rw [Array.getElem?_modify, if_pos rfl, show w.heap[q]? = _ from h]
  simp
theorem RwC.push {w : World} {q : Nat} {cs : List Value} {t : TypeId} (h : RwC w q cs t) (o : Obj) : RwC (w.alloc o) q cs t := h.up ((Below.refl _ _).alloc (Nat.le_refl _) o)
theorem RwC.drew1 {w : World} {q : Nat} {cs : List Value} {t : TypeId} (h : RwC w q cs t) : RwC w.drew q cs t := h
theorem RwC.drews {w : World} {q : Nat} {cs : List Value} {t : TypeId} (h : RwC w q cs t) (n : Nat) : RwC (w.drewN n) q cs t := h
/-- Where a copy of a struct stands: its source, the place of its answer, and the copy so far. -/
structure TMs (w W : World) (tL tM : TypeId) (src zer cs : List Value) : Prop where
  S : RwC W w.heap.size src tL
  U : RwC W (w.heap.size + 1) zer tM
  T : RwC W (w.heap.size + 1 + 1) cs tM
  N : Below w.heap.size w W
theorem TMs.new (w : World) (tL tM : TypeId) (src zer : List Value) : TMs w (((w.alloc (.cells src.toArray tL)).alloc (.cells zer.toArray tM)).alloc (.cells zer.toArray tM)) tL tM src zer zer := by
  have z1 : (w.alloc (.cells src.toArray tL)).heap.size = w.heap.size + 1 := by simp
  have n1 : Below w.heap.size w (w.alloc (.cells src.toArray tL)) := (Below.refl _ _).alloc (Nat.le_refl _) _
  have s1 := RwC.new w src tL
  generalize w.alloc (.cells src.toArray tL) = a at *
  have z2 : (a.alloc (.cells zer.toArray tM)).heap.size = a.heap.size + 1 := by simp
  have n2 : Below a.heap.size a (a.alloc (.cells zer.toArray tM)) := (Below.refl _ _).alloc (Nat.le_refl _) _
  have s2 := RwC.new a zer tM
  generalize a.alloc (.cells zer.toArray tM) = b at *
  have n3 : Below b.heap.size b (b.alloc (.cells zer.toArray tM)) := (Below.refl _ _).alloc (Nat.le_refl _) _
  have s3 := RwC.new b zer tM
  rw [z2, z1] at s3
  rw [z1] at s2
  exact ⟨(s1.up n2).up n3, s2.up n3, s3, nxt (nxt n1 n2) n3⟩
theorem TMs.up {w W W' : World} {tL tM : TypeId} {src zer cs : List Value} (h : TMs w W tL tM src zer cs) (m : Below W.heap.size W W') : TMs w W' tL tM src zer cs := ⟨h.S.up m, h.U.up m, h.T.up m, nxt h.N m⟩
theorem RwC.onl {w w' : World} {q r : Nat} {cs : List Value} {t : TypeId} (h : RwC w q cs t) (O : Only r w w') (hne : q ≠ r) : RwC w' q cs t := (O.block q hne).trans h
theorem TMs.set {w W : World} {tL tM : TypeId} {src zer cs : List Value} (h : TMs w W tL tM src zer cs) (i : Nat) (v : Value) : TMs w (W.setCell ⟨w.heap.size + 1 + 1, i, none⟩ v) tL tM src zer (cs.set i v) := by
  have O := Only.setCell W (w.heap.size + 1 + 1) i v
  exact ⟨h.S.onl O (by omega), h.U.onl O (by omega), h.T.set i v, h.N.trans (O.below (by omega))⟩
theorem only_setG (w : World) (q : Nat) : ∀ (vs : List Value) (o : Nat), Only q w (w.setCells q o vs)
  | [], _ => Only.refl _ _
  | v :: vs, o => (Only.setCell w q o v).trans (only_setG _ q vs (o + 1))
theorem RwC.thereG {w : World} {q : Nat} {cs : List Value} {t : TypeId} (h : RwC w q cs t) : w.there q 0 cs.length := fun j hj => by
  rw [Nat.zero_add, h.cell j, h.free j]
  exact ⟨by simp [hj], rfl⟩
theorem results_cellG {P : Program} {fn : Func} {p : Tmp} {ty : TypeId} (h : fn.results = #[.cell p ty]) (tmps : Array Value) (w : World) (g : Nat) (cs : List Value) (d : TypeDesc)
    (hp : tmps.getD p undef = .pointer (some ⟨g, 0, none⟩)) (hc : w.rangeAt g 0 cs) (hu : P.underlying ty = some d) (hd : d.isRow = true) (hi : (P.info? ty).map (·.size) = some cs.length) :
    (results fn tmps).run P w = .ok (.agg cs.toArray) w := by
  have hp' : tmps[p]?.getD undef = .pointer (some ⟨g, 0, none⟩) := by simpa using hp
  simp [results, h, hp', asAddr, run_loadVar_mid w g 0 ty cs d hc hu hd hi]
theorem RwC.rangeG {w : World} {q : Nat} {cs : List Value} {t : TypeId} (h : RwC w q cs t) : w.rangeAt q 0 cs := fun j v hj => by
  rw [Nat.zero_add]
  exact (h.cell j).trans hj
end Go.Proofs.YtpbniihhpfbamaaDoor

/-
  Worlds that differ in what was made and in some blocks; cells of a struct's block. No program in sight.
-/
namespace Go.Proofs.YtpbniihhpfbamaaDoor
set_option maxRecDepth 100000
open Go Go.RowKit

/-- Of what was there the blocks S alone have changed. -/
structure Tch (S : List Nat) (w w' : World) : Prop where
  os : w'.os = w.os
  tape : w'.tape = w.tape
  output : w'.output = w.output
  size : w.heap.size ≤ w'.heap.size
  block : ∀ b, b < w.heap.size → b ∉ S → w'.heap[b]? = w.heap[b]?
theorem Tch.of_below {w w' : World} {S : List Nat} (h : Below w.heap.size w w') : Tch S w w' := ⟨h.os, h.tape, h.output, h.size, fun b hb _ => h.block b hb⟩
theorem Tch.of_only {w w' : World} {g : Nat} (h : Only g w w') : Tch [g] w w' := ⟨h.os, h.tape, h.output, Nat.le_of_eq h.size.symm, fun b _ hn => h.block b (by simpa using hn)⟩
theorem Tch.trans {a b c : World} {S T : List Nat} (h : Tch S a b) (k : Tch T b c) : Tch (S ++ T) a c :=
  ⟨k.os.trans h.os, k.tape.trans h.tape, k.output.trans h.output, Nat.le_trans h.size k.size, fun x hx hn => (k.block x (Nat.lt_of_lt_of_le hx h.size) (fun m => hn (List.mem_append_right _ m))).trans (h.block x hx (fun m => hn (List.mem_append_left _ m)))⟩
theorem Tch.below {w w' : World} {S : List Nat} {B : Nat} (h : Tch S w w') (hB : B ≤ w.heap.size) (hS : ∀ s ∈ S, B ≤ s) : Below B w w' := ⟨h.os, h.tape, h.output, h.size, fun k hk => h.block k (by omega) (fun m => by have := hS k m; omega)⟩
theorem Tch.mono {w w' : World} {S T : List Nat} (h : Tch S w w') (hs : ∀ s ∈ S, s ∈ T) : Tch T w w' := ⟨h.os, h.tape, h.output, h.size, fun b hb hn => h.block b hb (fun m => hn (hs b m))⟩
theorem Own.tch {w w' : World} {S : List Nat} {g : Nat} {a : Option Addr} {k : IntKind} {xs : List Int} (h : Own w g a k xs) (t : Tch S w w') (hne : 0 < xs.length → g ∉ S) : Own w' g a k xs := by
  by_cases h0 : 0 < xs.length
  · exact h.of_block (t.block g (h.rd.lt h0) (hne h0))
  · exact fun q => absurd q h0
theorem Blk.tch {w w' : World} {S : List Nat} {g : Nat} {k : IntKind} {ys : List Int} (h : Blk w g k ys) (t : Tch S w w') (hne : g ∉ S) : Blk w' g k ys := h.of_block (t.block g h.lt hne)
theorem RwC.tch {w w' : World} {S : List Nat} {q : Nat} {cs : List Value} {t : TypeId} (h : RwC w q cs t) (m : Tch S w w') (hne : q ∉ S) : RwC w' q cs t := (m.block q h.lt hne).trans h
theorem RwC.c0 {w : World} {q : Nat} {x : Value} {cs : List Value} {t : TypeId} (h : RwC w q (x :: cs) t) : w.cell? ⟨q, 0, none⟩ = some x := h.cell 0
theorem RwC.c1 {w : World} {q : Nat} {x y : Value} {cs : List Value} {t : TypeId} (h : RwC w q (x :: y :: cs) t) : w.cell? ⟨q, 1, none⟩ = some y := h.cell 1
theorem RwC.c2 {w : World} {q : Nat} {x y z : Value} {cs : List Value} {t : TypeId} (h : RwC w q (x :: y :: z :: cs) t) : w.cell? ⟨q, 2, none⟩ = some z := h.cell 2
end Go.Proofs.YtpbniihhpfbamaaDoor

/-
  The laws' count of a list's bytes.
-/
namespace Go.Proofs.YtpbniihhpfbamaaDoor
set_option maxRecDepth 100000
open Go Go.RowKit

theorem szByteR (w : World) (a : Option Addr) (n c : Nat) (left : Int) (hn : n < 9223372036854775808) (hl : 0 ≤ left) (hm : left ≤ 1048576) :
    Calls Tryd.prog 30 #[.slice a n c, .int .i64 left] w fun e w' => e = .returned (.int .i64 (if left < (n : Int) then -1 else left - (n : Int))) ∧ w' = w := by
  by_cases h : left < (n : Int)
  · have t1 : decide (left - (n : Int) < 0) = true := by simp; omega
    rw [if_pos h]
    go_enter Tryd.func30, Tryd.ntmps30
    go_wp2
    go_ret
    exact ⟨rfl, rfl⟩
  · have t1 : decide (left - (n : Int) < 0) = false := by simp; omega
    rw [if_neg h]
    go_enter Tryd.func30, Tryd.ntmps30
    go_wp2
    go_ret
    exact ⟨rfl, rfl⟩
end Go.Proofs.YtpbniihhpfbamaaDoor
