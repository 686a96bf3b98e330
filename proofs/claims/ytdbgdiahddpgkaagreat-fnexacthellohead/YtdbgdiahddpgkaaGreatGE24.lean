import Derived.Test.YtdbgdiahddpgkaaGreatGE23
import Derived.Test.YtdbgdiahddpgkaaGreatGExMjY

/-
  The law of HelloHead, at what came in.
-/
namespace Go.Proofs.YtdbgdiahddpgkaaGreat
open Go Go.RowKit Go.ChangeShapes Go.WideShapes

theorem helloHead_law (w : World) (k : Int) (_ : (Lit.int .i64 k).wf = true) (v : Int) (_ : (Lit.int .i64 v).wf = true) (g2 : Nat) (a2 : Option Addr) (c2 : Nat) (r : List Int) (q2 : Rd w g2 a2 .u8 r) (b2 : Byt r) (k2 : r.length ≤ 9223372036854775807) (g3 : Nat) (a3 : Option Addr) (c3 : Nat) (s : List Int) (q3 : Rd w g3 a3 .u8 s) (b3 : Byt s) (k3 : s.length ≤ 9223372036854775807)
    (ho : ByteArray) (k4 : ho.size ≤ maxLen) (g5 : Nat) (a5 : Option Addr) (c5 : Nat) (pr : List (List UInt8)) (q5 : RdT w g5 a5 pr) (k5 : pr.length ≤ 9223372036854775807) (m5 : ∀ l ∈ pr, l.length ≤ 9223372036854775807) (z5 : pr.length ≤ c5) (g6 : Nat) (a6 : Option Addr) (c6 : Nat) (ti : List Int) (q6 : Rd w g6 a6 .u8 ti) (b6 : Byt ti) (k6 : ti.length ≤ 9223372036854775807)
    (ag : Int) (_ : (Lit.int .i64 ag).wf = true) (ea : Int) (_ : (Lit.int .i64 ea).wf = true) (g9 : Nat) (a9 : Option Addr) (c9 : Nat) (bi : List Int) (q9 : Rd w g9 a9 .u8 bi) (b9 : Byt bi) (k9 : bi.length ≤ 9223372036854775807) (rs : Bool) (g11 : Nat) (a11 : Option Addr) (c11 : Nat) (ce : List (List Int)) (ps : List Plb) (q11 : RdL w g11 a11 ce ps) (b11 : ∀ i, i < ce.length → Byt (ce.getD i [])) (k11 : ce.length ≤ 9223372036854775807) (m11 : ∀ i, i < ce.length → (ce.getD i []).length ≤ 9223372036854775807)
    (g12 : Nat) (a12 : Option Addr) (c12 : Nat) (pf : List Int) (q12 : Rd w g12 a12 .u8 pf) (b12 : Byt pf) (k12 : pf.length ≤ 9223372036854775807) :
    Calls Tryz.prog 3 #[.agg #[.int .i64 k, .int .i64 v, .slice a2 r.length c2, .slice a3 s.length c3, .string ho, .slice a5 pr.length c5, .slice a6 ti.length c6, .int .i64 ag, .int .i64 ea, .slice a9 bi.length c9, .bool rs, .slice a11 ce.length c11, .slice a12 pf.length c12]] w fun e w' => e = .returned (.bool true) ∧ Below w.heap.size w w' := by
  obtain ⟨⟨h⟩⟩ := ho
  have hh : h.length ≤ 9223372036854775807 := by
    have e : (ByteArray.mk ⟨h⟩).size = h.length := tx_size h
    unfold maxLen at k4
    omega
  exact helloHead_core w ⟨a2, c2, g2, a3, c3, g3, a5, c5, g5, a6, c6, g6, a9, c9, g9, a11, c11, g11, a12, c12, g12, ps⟩ ⟨k, v, r, s, h, pr, ti, ag, ea, bi, rs, ce, pf⟩ ⟨q2, q3, q5, q6, q9, q11, q12, z5⟩ ⟨b2, b3, b6, b9, b12, b11, k2, k3, hh, k5, m5, k6, k9, k11, m11, k12⟩
end Go.Proofs.YtdbgdiahddpgkaaGreat
