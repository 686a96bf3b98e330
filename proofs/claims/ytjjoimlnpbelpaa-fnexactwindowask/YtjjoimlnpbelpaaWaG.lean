
/-
  Windows that are asked: ids sorted by the places of their marks.
-/
import Derived.Test.YtjjoimlnpbelpaaWaF
namespace Go.Proofs.Ytjjoimlnpbelpaa
open Go Go.RowKit Go.Maps Go.Sort

abbrev Id32 : Type := { x : List Int // x.length = 32 ∧ Byt x }
instance : Inhabited Id32 := ⟨⟨List.replicate 32 0, by simp, fun i => by
  rw [List.getD_eq_getElem?_getD, List.getElem?_replicate]
  split <;> decide⟩⟩
set_option maxRecDepth 100000 in
def encI (x : Id32) : List Value := x.1.map (Value.int .u8)
set_option maxRecDepth 100000 in
theorem encI_len (x : Id32) : (encI x).length = 32 := by unfold encI; rw [List.length_map]; exact x.2.1
set_option maxRecDepth 100000 in
theorem encI_one (x : Id32) : ∀ v ∈ encI x, v.oneCell' = true := fun v hv => by
  obtain ⟨y, _, rfl⟩ := List.mem_map.1 hv
  rfl
set_option maxRecDepth 100000 in
def plD : DataW Unit → Int
  | .agg [.lit (.int .i64 p), _] => p
  | _ => 0
set_option maxRecDepth 100000 in
theorem plD_mk (p u : Int) : plD (pmD p u) = p := rfl
set_option maxRecDepth 100000 in
noncomputable def plOf (D : DataW Unit) (x : List Int) : Int := plD (D.atKey (keyL x) (pmD 0 0))
set_option maxRecDepth 100000 in
noncomputable def cfD (D : DataW Unit) (x y : Id32) : Int := Lib.compareInt (plOf D x.1) (plOf D y.1)
set_option maxRecDepth 100000 in
theorem lt_cfD (D : DataW Unit) (x y : Id32) : ltOf (cfD D) x y = decide (plOf D x.1 < plOf D y.1) := by
  unfold ltOf cfD Lib.compareInt
  by_cases h1 : plOf D x.1 < plOf D y.1
  · simp [h1]
  · by_cases h2 : plOf D y.1 < plOf D x.1 <;> simp [h1, h2]
set_option maxRecDepth 100000 in
theorem swo_cfD (D : DataW Unit) : SWO (ltOf (cfD D)) where
  irrefl x := by rw [lt_cfD]; simp
  trans x y z h1 h2 := by rw [lt_cfD] at *; simp at *; omega
  ntrans x y z h1 h2 := by rw [lt_cfD] at *; simp at *; omega
set_option maxRecDepth 100000 in
theorem grown_K {w : World} {g off n : Nat} {os : Array Obj} (d : Array Id32) : w.grownBy (sortWorldK encI 32 w g off n d os) (some g) := by
  have h1 : ∀ k, k ≠ g → (putRowK encI 32 (Sort.ahead w n) g off d).heap[k]? = w.heap[k]? := fun k hk => by
    unfold putRowK putRow mapBlock
    show (w.heap.modify g _)[k]? = _
    rw [Array.getElem?_modify, if_neg (by omega)]
  have h2 : (putRowK encI 32 (Sort.ahead w n) g off d).heap.size = w.heap.size := by
    unfold putRowK putRow mapBlock
    show (w.heap.modify g _).size = _
    rw [Array.size_modify]
  refine ⟨rfl, rfl, rfl, ?_, fun k hk hne => ?_⟩
  · unfold sortWorldK
    rw [size_grow, h2]
    omega
  · unfold sortWorldK
    rw [heap_grow_old _ _ (by rw [h2]; exact hk)]
    exact h1 k (fun e => hne (by rw [e]))
set_option maxRecDepth 100000 in
theorem own_gr {w w' : World} {b n g : Nat} {D : DataW Unit} (h : w.ownsMap Try.prog 58 pmR b n D) (m : w.grownBy w' (some g)) (hne : b ≠ g) : w'.ownsMap Try.prog 58 pmR b n D := by
  obtain ⟨es, clock, hb, h⟩ := h
  exact ⟨es, clock, (m.block b (Array.getElem?_eq_some_iff.1 hb).1 (by simpa using hne)).trans hb, h⟩
set_option maxRecDepth 100000 in
theorem cmpLays (D : DataW Unit) (s b n g off size : Nat) (w : World) (hs : w.cell? ⟨s, 0, none⟩ = some (.map (some b))) (own : w.ownsMap Try.prog 58 pmR b n D) (hsg : s ≠ g) (hbg : b ≠ g) : CmpLays Try.prog 35 #[.pointer (some ⟨s, 0, none⟩)] encI 32 (cfD D) g off size w := by
  intro m os dk _ x y
  obtain ⟨p, u, -, e1⟩ := look_book0 own (keyL_some x.2.1 x.2.2)
  obtain ⟨p', u', -, e2⟩ := look_book0 own (keyL_some y.2.1 y.2.2)
  have ec : cfD D x y = Lib.compareInt p p' := by unfold cfD plOf; rw [e1, e2]; rfl
  rw [ec]
  have gr := grown_K (w := w) (g := g) (off := off) (n := m) (os := os) dk
  exact closure_any _ s b n D x.1 y.1 x.2.1 x.2.2 y.2.1 y.2.2 ((World.cell?_of_block (a := ⟨s, 0, none⟩) (gr.block s (block_lt_of_cell hs) (by simpa using hsg))).trans hs) (own_gr own gr hbg) p u p' u' e1 e2
set_option maxRecDepth 100000 in
theorem aggId (w : World) : (isAgg 58).run Try.prog w = .ok true w := by kernel_rfl
set_option maxRecDepth 100000 in
theorem szId (w : World) : (Go.sizeOf 58).run Try.prog w = .ok 32 w := by kernel_rfl
set_option maxRecDepth 100000 in
theorem sortIds_any (D : DataW Unit) (s b n g cap : Nat) (d : Array Id32) (w : World) (hs : w.cell? ⟨s, 0, none⟩ = some (.map (some b))) (own : w.ownsMap Try.prog 58 pmR b n D) (hsg : s ≠ g) (hbg : b ≠ g) (hH : HoldsK encI 32 w g 0 d) (hg : g < w.heap.size) (hz : d.size < 4611686018427387904) :
    Calls Try.prog 46 #[.slice (some ⟨g, 0, none⟩) d.size cap, .func (.func 35) #[] #[.pointer (some ⟨s, 0, none⟩)]] w fun e w' => e = .returned (.tuple #[]) ∧ ∃ d' : Array Id32, d'.toList.Perm d.toList ∧ (∀ i j, i < j → j < d.size → plOf D (d'[i]!).1 ≤ plOf D (d'[j]!).1) ∧ HoldsK encI 32 w' g 0 d' ∧ w.grownBy w' (some g) := by
  have eg : ∀ args w, (callFunc 35 args).run Try.prog w = .ok (.enter 35 args) w := enters_of Try.func35 (by kernel_rfl) rfl
  refine (AnyQ.slices_SortFunc Try.sortId 32 aggId szId encI encI_len encI_one (cfD D) (swo_cfD D) 35 #[.pointer (some ⟨s, 0, none⟩)] g 0 cap d w eg (cmpLays D s b n g 0 d.size w hs own hsg hbg) hH hg hz).mono ?_
  rintro e w' ⟨rfl, d', m, os, hp, hso, rfl⟩
  obtain ⟨p1, -, p3⟩ := hp
  refine ⟨rfl, d', ?_, fun i j hi hj => ?_, ?_, grown_K d'⟩
  · have x1 : d'.extract 0 d.size = d' := by rw [← p1]; simp
    have x2 : d.extract 0 d.size = d := by simp
    rw [x1, x2] at p3
    exact p3
  · have := hso i j (Nat.zero_le _) hi hj
    rw [lt_cfD] at this
    simpa using this
  · unfold sortWorldK
    refine holdsK_grow _ _ _ _ _ _ _ ?_ (holdsK_putRowK _ _ _ _ _ d d' hH p1)
    show g < ((Sort.ahead w m).heap.modify g _).size
    rw [Array.size_modify]
    exact hg
end Go.Proofs.Ytjjoimlnpbelpaa
