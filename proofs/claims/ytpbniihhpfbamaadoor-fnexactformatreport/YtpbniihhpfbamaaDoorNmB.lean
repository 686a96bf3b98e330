
/-
  The program's and the model's NameMatches, and the law.
-/
import Derived.Test.YtpbniihhpfbamaaDoorNmA
import Derived.Test.YtpbniihhpfbamaaDoorLPat
namespace Go.Proofs.YtpbniihhpfbamaaDoor
set_option maxRecDepth 100000
open Go Go.RowKit

theorem tx_add (w : World) (a b : List UInt8) (h : a.length + b.length ≤ 9223372036854775807) : (Op.stringOp .add (ByteArray.mk ⟨a⟩) (ByteArray.mk ⟨b⟩)).run Tryd.prog w = .ok (.string ⟨⟨a ++ b⟩⟩) w := by
  rw [run_string_add_sum w _ _ (by rw [tx_size, tx_size]; exact h)]
  have := ByteArray.mk_append_mk a b
  exact congrArg (fun s => Result.ok (Value.string s) w) this
theorem lab_len (l x : List UInt8) (h : x ∈ labs l) : x.length ≤ l.length := by
  have aux : ∀ (ls : List (List UInt8)), x ∈ ls → x.length ≤ (unl ls).length := by
    intro ls
    induction ls with
    | nil => intro k; cases k
    | cons y ys ih =>
      intro k
      cases ys with
      | nil =>
        rcases List.mem_cons.1 k with rfl | k
        · exact Nat.le_refl _
        · cases k
      | cons z zs =>
        rw [unl_cons y (by simp)]
        rcases List.mem_cons.1 k with rfl | k
        · simp
        · have := ih k
          simp only [List.length_append, List.length_cons]
          omega
  have := aux _ h
  rwa [unl_labs] at this
end Go.Proofs.YtpbniihhpfbamaaDoor
