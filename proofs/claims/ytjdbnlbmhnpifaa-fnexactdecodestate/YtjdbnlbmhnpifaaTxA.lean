
/-
  A text appended to an owned row.
-/
import Derived.Test.YtjdbnlbmhnpifaaApd
import Derived.Test.YtjdbnlbmhnpifaaPdN
import Derived.Test.YtjdbnlbmhnpifaaHelp
import Derived.Test.YtjdbnlbmhnpifaaLbN
import Derived.Lib.AppendStr
namespace Go.Proofs.Ytjdbnlbmhnpifaa
open Go Go.RowKit

/-- A text's bytes. -/
def txL (l : List UInt8) : List Int := l.map fun b => (b.toNat : Int)
theorem txL_len (l : List UInt8) : (txL l).length = l.length := by simp [txL]
/-- A text appended. -/
theorem appendT_any {P : Program} (w : World) (ty : TypeId) (i : TypeInfo) (ht : P.underlying 22 = some (.slice 5)) (hu : P.underlying 9 = some .string) (hi : P.info? 5 = some i) (hz : i.zero = some (.int .u8 0)) (hsize : i.size = 1) (hby : i.bytes = 1)
    (base B : Nat) (v : Value) (xs : List Int) (hown : RowB w base v xs) (l : List UInt8) (hl : xs.length + l.length ≤ 1099511627776) (hB : B ≤ base) (hbase : base ≤ w.heap.size) :
    ∃ v' w', (Builtin.append_ #[22, 9] ty #[v, .string ⟨⟨l⟩⟩]).run P w = .ok v' w' ∧ RowB w' base v' (xs ++ txL l) ∧ Below B w w' := by
  have hs : (ByteArray.mk ⟨l⟩).size = l.length := rfl
  obtain ⟨v', w', h1, h2, h3, _⟩ := Lib.run_append_own_string (P := P) w base 22 9 ty 5 i ht hu hi hz hsize hby v xs.length (xs.map (Value.int .u8)) hown ⟨⟨l⟩⟩ (by rw [hs]; unfold maxLen; omega) (by rw [hs]; omega) hbase
  refine ⟨v', w', h1, ?_, (Below.refl B w).grown h3 (by omega) (fun k hk => by have := (World.ownsRow.lt hown k hk).1; omega)⟩
  show w'.ownsRow base 5 1 v' (xs ++ txL l).length ((xs ++ txL l).map (Value.int .u8))
  rw [List.length_append, List.map_append, txL_len]
  have e : (txL l).map (Value.int .u8) = Lib.strCells ⟨⟨l⟩⟩ := by simp [txL, Lib.strCells]
  rw [e]
  exact h2
end Go.Proofs.Ytjdbnlbmhnpifaa
