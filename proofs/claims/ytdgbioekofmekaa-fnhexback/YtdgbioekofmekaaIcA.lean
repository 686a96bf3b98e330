
/-
  The program's EncodeItem.
-/
import Derived.Test.YtdgbioekofmekaaHelp
import Derived.Test.YtdgbioekofmekaaItN
import Derived.Test.YtdgbioekofmekaaApd
namespace Go.Proofs.Ytdgbioekofmekaa
open Go Go.RowKit

/-- One byte appended. -/
theorem append_one {P : Program} (w : World) (i : TypeInfo) (ht : P.underlying 22 = some (.slice 5)) (hi : P.info? 5 = some i) (hz : i.zero = some (.int .u8 0)) (hsize : i.size = 1) (hby : i.bytes = 1)
    (B : Nat) (v : Value) (xs : List Int) (hown : RowB w B v xs) (x : Int) (hl : xs.length ≤ 1048576) (hB : B ≤ w.heap.size) :
    ∃ v' w', (Builtin.append_ #[22, 22] 22 #[v, .slice (some ⟨w.heap.size, 0, none⟩) 1 1]).run P (w.alloc (.cells #[.int .u8 x] 5)) = .ok v' w' ∧ RowB w' B v' (xs ++ [x]) ∧ Below B w w' := by
  have na : Below w.heap.size w (w.alloc (.cells #[.int .u8 x] 5)) := (Below.refl _ _).alloc (Nat.le_refl _) _
  have B1 : Blk (w.alloc (.cells #[.int .u8 x] 5)) w.heap.size .u8 [x] := blk_lit1 w .u8 5 x
  obtain ⟨v', w2, hap, o2, n2⟩ := append_any (P := P) (w.alloc (.cells #[.int .u8 x] 5)) 22 i ht hi hz hsize hby B B _ _ (hown.up na) _ _ 1 [x] B1.own0.rd (by simp) (by simp; omega) (Nat.le_refl _) (by have := na.size; omega)
  exact ⟨v', w2, hap, o2, (na.mono hB).trans n2⟩

theorem itB_yes {tag : Int} {n : Nat} (h : itB tag n = true) : 1 ≤ tag ∧ tag ≤ 255 ∧ n ≤ 65535 := by
  unfold itB at h
  simpa using h

theorem itL_short (tag : Int) (body : List Int) : (itL tag body).length ≤ 65540 := by
  unfold itL
  split
  · rename_i h
    have := itB_yes h
    have := lenL_len body.length
    simp
    omega
  · simp
end Go.Proofs.Ytdgbioekofmekaa
