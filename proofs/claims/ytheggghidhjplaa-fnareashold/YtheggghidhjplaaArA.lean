
/-
  Rows of texts in blocks of their own; texts in order.
-/
import Derived.Test.YtheggghidhjplaaDnC
import Derived.Laws.Cover1
namespace Go.Proofs.Ytheggghidhjplaa
open Go Go.RowKit

/-- A row of texts in block g that may be appended to. -/
structure RowAt (w : World) (g : Nat) (v : Value) (ls : List (List UInt8)) : Prop where
  e : ∃ c, v = .slice (some ⟨g, 0, none⟩) ls.length c
  o : RowT w 0 v ls
theorem RowAt.rd {w : World} {g : Nat} {v : Value} {ls : List (List UInt8)} (h : RowAt w g v ls) : RdT w g (some ⟨g, 0, none⟩) ls := by
  intro h0
  obtain ⟨c, rfl⟩ := h.e
  obtain ⟨g', c', e', _, _, hc, _⟩ := h.o.cells h0
  simp only [Value.slice.injEq, Option.some.injEq, Addr.mk.injEq, and_true, true_and] at e'
  obtain ⟨rfl, rfl⟩ := e'
  exact ⟨0, rfl, fun i hi => by rw [Nat.zero_add]; exact hc i hi⟩
theorem RowAt.lt {w : World} {g : Nat} {v : Value} {ls : List (List UInt8)} (h : RowAt w g v ls) : g < w.heap.size := by
  obtain ⟨c, rfl⟩ := h.e
  rcases h.o.2 with ⟨h', _⟩ | ⟨g', cap, cur, h', _, hg, _⟩
  · simp at h'
  · simp only [Value.slice.injEq, Option.some.injEq, Addr.mk.injEq, and_true, true_and] at h'
    obtain ⟨rfl, rfl⟩ := h'
    exact (Array.getElem?_eq_some_iff.1 hg).1
theorem RowAt.of_block {w w' : World} {g : Nat} {v : Value} {ls : List (List UInt8)} (h : RowAt w g v ls) (hb : w'.heap[g]? = w.heap[g]?) : RowAt w' g v ls := by
  refine ⟨h.e, h.o.1, ?_⟩
  obtain ⟨c, hv⟩ := h.e
  rcases h.o.2 with h' | ⟨g', cap, cur, rfl, hbg, hg, hnc, hcm, hcs, ht⟩
  · exact .inl h'
  · simp only [Value.slice.injEq, Option.some.injEq, Addr.mk.injEq, and_true, true_and] at hv
    obtain ⟨rfl, rfl⟩ := hv
    exact .inr ⟨g', _, cur, rfl, hbg, by rw [hb]; exact hg, hnc, hcm, hcs, ht⟩
theorem RowAt.up {w w' : World} {g : Nat} {v : Value} {ls : List (List UInt8)} (h : RowAt w g v ls) (n : Below w.heap.size w w') : RowAt w' g v ls := h.of_block (n.block g h.lt)
theorem RowAt.but {w w' : World} {g s : Nat} {v : Value} {ls : List (List UInt8)} (h : RowAt w g v ls) (n : But s w w') (hs : g ≠ s) : RowAt w' g v ls := h.of_block (n.block g h.lt hs)
theorem RowAt.new (w : World) (ls : List (List UInt8)) (hl : ls.length ≤ 1000000) : RowAt (w.alloc (.cells (ls.map tx).toArray 9)) w.heap.size (.slice (some ⟨w.heap.size, 0, none⟩) ls.length ls.length) ls := by
  refine ⟨⟨_, rfl⟩, ?_⟩
  have := World.ownsRow_lit (base := 0) (size := 1) (e := 9) w (ls.map tx).toArray ls.length (Nat.zero_le _) (by unfold maxLen; omega) (by simp)
  exact this
/-- Texts more. -/
theorem appendT (w : World) (ty : TypeId) (v : Value) (ls ms : List (List UInt8)) (g g2 off c : Nat) (h : RowAt w g v ls) (hr : ∀ i, i < ms.length → w.cell? ⟨g2, off + i, none⟩ = some (tx (ms.getD i []))) (hl : ls.length + ms.length ≤ 1000000) :
    ∃ v' w' g', (Builtin.append_ #[28, 28] ty #[v, .slice (some ⟨g2, off, none⟩) ms.length c]).run Try.prog w = .ok v' w' ∧ RowAt w' g' v' (ls ++ ms) ∧ But g w w' ∧ (g' = g ∨ g' = w.heap.size) := by
  obtain ⟨i, hi, hz, hs, hb⟩ := info_parts infoS
  obtain ⟨v', w', h1, h2, h3, _, h5⟩ := run_append_own_at (P := Try.prog) w 0 28 ty 9 i (.string ⟨#[]⟩) 1 16 undS hi hz hs hb rfl (by decide) v ls.length (ls.map tx) h.o ⟨g2, off, none⟩ ms.length c (ms.map tx) (by simp) (fun j u hj => by
    have hj' : j < ms.length := by
      have := (List.getElem?_eq_some_iff.1 hj).1
      simpa using this
    rw [Addr.add_mid, hr j hj']
    simpa [hj'] using hj) (tx_one ms) (by unfold maxLen; omega) (by omega) (Nat.zero_le _)
  obtain ⟨c0, hv⟩ := h.e
  have ho : v.ownBlock = some g := by rw [hv]; rfl
  rw [ho] at h3 h5
  have h2' : RowT w' 0 v' (ls ++ ms) := by
    show w'.ownsRow 0 9 1 v' (ls ++ ms).length ((ls ++ ms).map tx)
    rw [List.length_append, List.map_append]
    exact h2
  have hB : But g w w' := ⟨h3.os, h3.tape, h3.output, h3.size, fun k hk hne => h3.block k hk (fun e => hne (Option.some.inj e))⟩
  rcases h2.2 with ⟨h', _⟩ | ⟨g', cap, cur, hv', _⟩
  · rw [h'] at h5
    simp [Value.ownBlock] at h5
  · refine ⟨v', w', g', h1, ⟨⟨cap, by rw [hv', List.length_append]⟩, h2'⟩, hB, ?_⟩
    rw [hv'] at h5
    simpa [Value.ownBlock] using h5
theorem less_irrefl (a : List UInt8) : Op.bytesLess a a = false := by
  induction a with
  | nil => rfl
  | cons x a ih =>
    show (decide (x < x) || (x == x && Op.bytesLess a a)) = false
    rw [ih, decide_eq_false (fun h => by have := UInt8.lt_iff_toNat_lt.1 h; omega)]
    simp
theorem less_trans : ∀ (a b c : List UInt8), Op.bytesLess a b = true → Op.bytesLess b c = true → Op.bytesLess a c = true
  | _, _, [], _, h => by simp [Op.bytesLess] at h
  | _, [], _ :: _, h, _ => by simp [Op.bytesLess] at h
  | [], _ :: _, _ :: _, _, _ => rfl
  | x :: a, y :: b, z :: c, h1, h2 => by
    have e1 : (decide (x < y) || (x == y && Op.bytesLess a b)) = true := h1
    have e2 : (decide (y < z) || (y == z && Op.bytesLess b c)) = true := h2
    show (decide (x < z) || (x == z && Op.bytesLess a c)) = true
    simp only [Bool.or_eq_true, Bool.and_eq_true, decide_eq_true_eq, beq_iff_eq] at e1 e2 ⊢
    rcases e1 with e1 | ⟨rfl, e1⟩
    · rcases e2 with e2 | ⟨rfl, e2⟩
      · left
        have := UInt8.lt_iff_toNat_lt.1 e1
        have := UInt8.lt_iff_toNat_lt.1 e2
        exact UInt8.lt_iff_toNat_lt.2 (by omega)
      · left
        exact e1
    · rcases e2 with e2 | ⟨rfl, e2⟩
      · left
        exact e2
      · right
        exact ⟨rfl, less_trans a b c e1 e2⟩
theorem filter_less {p q : List UInt8 → Bool} {x : List UInt8} (hpq : ∀ y, q y = true → p y = true) (hp : p x = true) (hq : q x = false) : ∀ {ls : List (List UInt8)}, x ∈ ls → (ls.filter q).length < (ls.filter p).length
  | [], h => by cases h
  | y :: ls, h => by
    have le : ∀ zs : List (List UInt8), (zs.filter q).length ≤ (zs.filter p).length := by
      intro zs
      induction zs with
      | nil => simp
      | cons z zs ih =>
        rw [List.filter_cons, List.filter_cons]
        cases hz : q z with
        | true => simp [hpq z hz, ih]
        | false => cases p z <;> simp <;> omega
    rw [List.filter_cons, List.filter_cons]
    rcases List.mem_cons.1 h with rfl | h
    · rw [hp, hq]
      have := le ls
      simp
      omega
    · have ih := filter_less hpq hp hq h
      cases hz : q y with
      | true => simp [hpq y hz, ih]
      | false => cases p y <;> simp <;> omega
/-- How many may still come. -/
def cntG (ls out : List (List UInt8)) : Nat := if out = [] then ls.length else (ls.filter fun x => Op.bytesLess (out.getD (out.length - 1) []) x).length
def gtL (out : List (List UInt8)) (b : List UInt8) : Prop := out ≠ [] → Op.bytesLess (out.getD (out.length - 1) []) b = true
theorem cnt_step {ls out : List (List UInt8)} {b : List UInt8} (hb : b ∈ ls) (hg : gtL out b) : cntG ls (out ++ [b]) < cntG ls out := by
  have e : cntG ls (out ++ [b]) = (ls.filter fun x => Op.bytesLess b x).length := by
    unfold cntG
    rw [if_neg (by simp)]
    have : (out ++ [b]).getD ((out ++ [b]).length - 1) [] = b := by simp
    rw [this]
  rw [e]
  by_cases h : out = []
  · have e2 : cntG ls out = (ls.filter fun _ => true).length := by
      unfold cntG
      rw [if_pos h, List.filter_eq_self.2 (fun _ _ => rfl)]
    rw [e2]
    exact filter_less (p := fun _ => true) (q := fun x => Op.bytesLess b x) (fun _ _ => rfl) rfl (less_irrefl b) hb
  · have e2 : cntG ls out = (ls.filter fun x => Op.bytesLess (out.getD (out.length - 1) []) x).length := by
      unfold cntG
      rw [if_neg h]
    rw [e2]
    exact filter_less (p := fun x => Op.bytesLess (out.getD (out.length - 1) []) x) (q := fun x => Op.bytesLess b x) (fun y hy => less_trans _ _ _ (hg h) hy) (hg h) (less_irrefl b) hb
end Go.Proofs.Ytheggghidhjplaa
