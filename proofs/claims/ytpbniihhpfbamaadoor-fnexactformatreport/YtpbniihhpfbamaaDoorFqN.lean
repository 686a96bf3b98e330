
/-
  The lines of a report as lists of bytes (no Go).
-/
import Derived.Test.YtpbniihhpfbamaaDoorHxA
import Derived.Test.YtpbniihhpfbamaaDoorStA
import Derived.Test.YtpbniihhpfbamaaDoorKmE
import Derived.Lib.ItoaLen
import Derived.Lib.Join
namespace Go.Proofs.YtpbniihhpfbamaaDoor
set_option maxRecDepth 100000
open Go Go.RowKit

def itL (n : Int) : List UInt8 := Lib.itoa n
/-- The digits of some bytes. -/
def heT (xs : List Int) : List UInt8 := (ehF xs).data.toList
/-- A text's bytes as numbers. -/
def byL (s : ByteArray) : List Int := s.data.toList.map fun b => (b.toNat : Int)
def flT (b : Bool) : List UInt8 := if b = true then [49] else [48]
def lnL (ws : List (List UInt8)) : List UInt8 := Lib.join ws [32]
theorem ehF_heT (xs : List Int) : (Value.string (ehF xs)) = tx (heT xs) := rfl
theorem heT_len (xs : List Int) : (heT xs).length ≤ 2 * xs.length + 1 := by
  unfold heT ehF
  split
  · simp
  · have h := str_data (heL xs) ByteArray.empty
    have e : (str (heL xs)).data.toList.length = (heL xs).length := by
      unfold str
      rw [h]
      simp
    rw [e, heL_len]
    omega
theorem itL_len (n : Int) (h0 : -9223372036854775808 ≤ n) (h1 : n ≤ 9223372036854775807) : (itL n).length ≤ 21 := by
  unfold itL Lib.itoa
  split
  · rw [List.length_cons, Lib.decDigits_length]
    have := Lib.nDigits_le20 n.natAbs (by omega)
    omega
  · rw [Lib.decDigits_length]
    have := Lib.nDigits_le20 n.toNat (by omega)
    omega
theorem flT_len (b : Bool) : (flT b).length = 1 := by cases b <;> rfl
theorem byL_len (s : ByteArray) : (byL s).length = s.size := by simp [byL]
theorem byL_byt (s : ByteArray) : Byt (byL s) := fun i => by
  unfold byL
  rw [List.getD_eq_getElem?_getD, List.getElem?_map]
  cases h : s.data.toList[i]? with
  | none => simp
  | some b =>
    have := b.toNat_lt
    exact ⟨by simp, by simp; omega⟩
theorem joinT_len (r : List (List UInt8)) : (Lib.joinTail [32] r).length = (r.map (·.length)).sum + r.length := by
  unfold Lib.joinTail
  induction r with
  | nil => rfl
  | cons x r ih =>
    rw [List.map_cons, List.flatten_cons, List.length_append, ih, List.map_cons, List.sum_cons, List.length_cons, List.length_append, List.length_cons, List.length_nil]
    omega
theorem lnL_cons (x : List UInt8) (r : List (List UInt8)) : (lnL (x :: r)).length = x.length + (r.map (·.length)).sum + r.length := by
  unfold lnL
  rw [Lib.join_cons, List.length_append, joinT_len]
  omega
/-- An end's line. -/
def enT (wo : List UInt8) (d : ED) : List UInt8 := lnL [wo, itL d.ph, itL d.al, itL d.pa, itL d.no, flT d.rs, flT d.et, itL d.er, heT (byL d.pr), heT d.ex, heT d.tr, heT d.re]
/-- The line of what is saved. -/
def svT (tk pk rn : List Int) (gt li ea : Int) (ho : List UInt8) (sp : ByteArray) : List UInt8 := lnL [[115, 97, 118, 101, 100], heT tk, heT pk, heT rn, itL gt, itL li, itL ea, ho, heT (byL sp)]
def mkT (m : Mrk) : List UInt8 := lnL [[109, 97, 114, 107], heT m.id, itL m.un]
def waT (ts tc : List Int) : List UInt8 := lnL [[119, 97, 121], heT ts, heT tc]
def cnT (i : Nat) : List UInt8 := lnL [[99, 111, 110, 110, 101, 99, 116, 105, 111, 110], itL (i : Int)]
def clW : List UInt8 := [99, 108, 105, 101, 110, 116]
def svW : List UInt8 := [115, 101, 114, 118, 101, 114]
/-- A connection's lines. -/
def chT (i : Nat) (c : CD) : List (List UInt8) := [cnT i, enT clW c.cl, enT svW c.sv, waT c.ts c.tc]
/-- The line of what is left: there is one even if nothing is. -/
def lfT (tk pk rn : List Int) (gt li ea : Int) (ho sp : ByteArray) : List UInt8 := if tk.length = 0 then lnL [[115, 97, 118, 101, 100], [45]] else svT tk pk rn gt li ea (heT (byL ho)) sp
def wdT (wd : Int) : List UInt8 := lnL [[119, 105, 110, 100, 111, 119], itL wd]
def faT (fa : Int) : List UInt8 := lnL [[102, 97, 117, 108, 116], itL fa]
/-- The lines of the first k connections. -/
def csT (cs : List CD) (d0 : CD) (k : Nat) : List (List UInt8) := ((List.range k).map fun i => chT i (cs.getD i d0)).flatten
theorem csT_succ (cs : List CD) (d0 : CD) (k : Nat) : csT cs d0 (k + 1) = csT cs d0 k ++ chT k (cs.getD k d0) := by
  unfold csT
  rw [List.range_succ, List.map_append, List.flatten_append]
  simp
/-- The lines as one text. -/
def ltT (ls : List (List UInt8)) : List UInt8 := (ls.map (· ++ [10])).flatten
theorem ltT_nil : ltT [] = [] := rfl
theorem ltT_app (a b : List (List UInt8)) : ltT (a ++ b) = ltT a ++ ltT b := by simp [ltT]
theorem ltT_one (x : List UInt8) : ltT [x] = x ++ [10] := by simp [ltT]
/-- The ints of a report are ints. -/
def I64 (n : Int) : Prop := -9223372036854775808 ≤ n ∧ n ≤ 9223372036854775807
structure IrE (d : ED) : Prop where
  ph : I64 d.ph
  al : I64 d.al
  pa : I64 d.pa
  no : I64 d.no
  er : I64 d.er
theorem enT_len {wo : List UInt8} {d : ED} (k : OkE d) (i : IrE d) (hp : d.pr.size ≤ 1048576) (hw : wo.length ≤ 10) : (enT wo d).length ≤ 9000000 := by
  unfold enT
  rw [lnL_cons]
  have h1 := itL_len d.ph i.ph.1 i.ph.2
  have h2 := itL_len d.al i.al.1 i.al.2
  have h3 := itL_len d.pa i.pa.1 i.pa.2
  have h4 := itL_len d.no i.no.1 i.no.2
  have h5 := itL_len d.er i.er.1 i.er.2
  have e1 := flT_len d.rs
  have e2 := flT_len d.et
  have x1 := heT_len (byL d.pr)
  have x2 := heT_len d.ex
  have x3 := heT_len d.tr
  have x4 := heT_len d.re
  rw [byL_len] at x1
  have := k.ex
  have := k.tr
  have := k.re
  simp only [List.map_cons, List.map_nil, List.sum_cons, List.sum_nil, List.length_cons, List.length_nil]
  omega
theorem svT_len {tk pk rn : List Int} {gt li ea : Int} {ho : List UInt8} {sp : ByteArray} (h1 : tk.length ≤ 1048576) (h2 : pk.length ≤ 1048576) (h3 : rn.length ≤ 1048576) (h4 : I64 gt) (h5 : I64 li) (h6 : I64 ea) (h7 : ho.length ≤ 2200000) (h8 : sp.size ≤ 1048576) : (svT tk pk rn gt li ea ho sp).length ≤ 15000000 := by
  unfold svT
  rw [lnL_cons]
  have y1 := itL_len gt h4.1 h4.2
  have y2 := itL_len li h5.1 h5.2
  have y3 := itL_len ea h6.1 h6.2
  have x1 := heT_len tk
  have x2 := heT_len pk
  have x3 := heT_len rn
  have x4 := heT_len (byL sp)
  rw [byL_len] at x4
  simp only [List.map_cons, List.map_nil, List.sum_cons, List.sum_nil, List.length_cons, List.length_nil]
  omega
theorem mkT_len {m : Mrk} (h : m.id.length ≤ 1048576) (i : I64 m.un) : (mkT m).length ≤ 2200000 := by
  unfold mkT
  rw [lnL_cons]
  have y1 := itL_len m.un i.1 i.2
  have x1 := heT_len m.id
  simp only [List.map_cons, List.map_nil, List.sum_cons, List.sum_nil, List.length_cons, List.length_nil]
  omega
theorem waT_len {ts tc : List Int} (h1 : ts.length ≤ 1048576) (h2 : tc.length ≤ 1048576) : (waT ts tc).length ≤ 4300000 := by
  unfold waT
  rw [lnL_cons]
  have x1 := heT_len ts
  have x2 := heT_len tc
  simp only [List.map_cons, List.map_nil, List.sum_cons, List.sum_nil, List.length_cons, List.length_nil]
  omega
theorem one_len {wo : List UInt8} {n : Int} (hw : wo.length ≤ 20) (i : I64 n) : (lnL [wo, itL n]).length ≤ 100 := by
  rw [lnL_cons]
  have y1 := itL_len n i.1 i.2
  simp only [List.map_cons, List.map_nil, List.sum_cons, List.sum_nil, List.length_cons, List.length_nil]
  omega
end Go.Proofs.YtpbniihhpfbamaaDoor
