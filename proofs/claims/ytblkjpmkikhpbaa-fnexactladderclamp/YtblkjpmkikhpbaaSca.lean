
/-
  The program's words of the order: a package's words in memory, scalars to and from bytes.
-/
import Derived.Test.YtblkjpmkikhpbaaElmB
import Derived.Test.YtblkjpmkikhpbaaOrd
namespace Go.Proofs.Ytblkjpmkikhpbaa
open Go.RowKit

/-- Block g holds n words f. -/
def HasW (w : World) (g : Nat) (f : Nat → Int) (n : Nat) : Prop := ∀ k, k < n → w.cell? ⟨g, k, none⟩ = some (.int .u64 (f k))
theorem HasW.of_block {w w' : World} {g n : Nat} {f : Nat → Int} (h : HasW w g f n) (hb : w'.heap[g]? = w.heap[g]?) : HasW w' g f n := fun k hk => (World.cell?_of_block (a := ⟨g, k, none⟩) hb).trans (h k hk)
theorem HasW.lt {w : World} {g n : Nat} {f : Nat → Int} (h : HasW w g f n) (hn : 0 < n) : g < w.heap.size := block_lt_of_cell (h 0 hn)
theorem HasW.up {w w' : World} {g n : Nat} {f : Nat → Int} (h : HasW w g f n) (b : Below w.heap.size w w') : HasW w' g f n := by
  by_cases hn : 0 < n
  · exact h.of_block (b.block g (h.lt hn))
  · exact fun k hk => absurd hk (by omega)
theorem HasW.f4 {w : World} {g : Nat} {f : Nat → Int} (h : HasW w g f 4) : w.cell? ⟨g, 0, none⟩ = some (.int .u64 (f 0)) ∧ w.cell? ⟨g, 1, none⟩ = some (.int .u64 (f 1)) ∧ w.cell? ⟨g, 2, none⟩ = some (.int .u64 (f 2)) ∧ w.cell? ⟨g, 3, none⟩ = some (.int .u64 (f 3)) :=
  ⟨h 0 (by omega), h 1 (by omega), h 2 (by omega), h 3 (by omega)⟩

set_option maxHeartbeats 2000000 in
theorem scalarBytes_any (w : World) (W : Nat → Int) (hW : W4 W) :
    Calls Try.prog 14 #[ag4 W] w fun r w' => NewRow w.heap.size w' r .u8 (fill (byt (wval W)) 32) ∧ Below w.heap.size w w' := by
  have hal : Below w.heap.size w (w.alloc (.cells #[.int .u64 (W 0), .int .u64 (W 1), .int .u64 (W 2), .int .u64 (W 3)] 29)) := (Below.refl _ _).alloc (Nat.le_refl _) _
  have WB := fun w' => wordsBytes_any w' W hW
  simp only [ag4] at WB ⊢
  go_enter Try.func14, Try.ntmps14
  go_wp2_with fail
  generalize w.alloc (.cells #[.int .u64 (W 0), .int .u64 (W 1), .int .u64 (W 2), .int .u64 (W 3)] 29) = wa at *
  refine (WB wa).mono ?_
  rintro r w2 ⟨rfl, B, n2⟩
  have N2 := nxt hal n2
  have z := hal.size
  clear WB
  go_wp2
  go_ret
  exact ⟨⟨_, 32, wa.heap.size + 1, by rw [fill_len]; rfl, B.own0, by simp, by rw [fill_len]; omega, by omega⟩, N2⟩

end Go.Proofs.Ytblkjpmkikhpbaa
