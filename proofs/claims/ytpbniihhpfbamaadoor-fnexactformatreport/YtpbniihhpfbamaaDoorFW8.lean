import Derived.Test.YtpbniihhpfbamaaDoorFW7
import Derived.Test.YtpbniihhpfbamaaDoorFW2
import Derived.Test.YtpbniihhpfbamaaDoorFW3
import Derived.Lib.ItoaLen
import Derived.Lib.Join
import Derived.Lib.ConvBytes
import Derived.Lib.FrozenHead
import Derived.Test.YtpbniihhpfbamaaDoorFW1
import Derived.Lib.AppendIntMem

/-
  The report of a channel, copied; windows and the reports of ends held against each other (written by gens/kme.py).
-/
namespace Go.Proofs.YtpbniihhpfbamaaDoor
set_option maxRecDepth 100000
open Go Go.RowKit

/-- The report of a channel as data. -/
structure CD where
  fa : Int
  an : List Int
  cl : ED
  sv : ED
  ts : List Int
  tc : List Int
/-- Where it lies. -/
structure CA where
  a1 : Option Addr
  c1 : Nat
  g1 : Nat
  cl : EA
  sv : EA
  a50 : Option Addr
  c50 : Nat
  g50 : Nat
  a51 : Option Addr
  c51 : Nat
  g51 : Nat
structure HasC (b : Nat) (W : World) (p : CA) (d : CD) : Prop where
  an : Rd W p.g1 p.a1 .i64 d.an
  ban : b ≤ p.g1
  cl : HasE b W p.cl d.cl
  sv : HasE b W p.sv d.sv
  ts : Rd W p.g50 p.a50 .u8 d.ts
  bts : b ≤ p.g50
  tc : Rd W p.g51 p.a51 .u8 d.tc
  btc : b ≤ p.g51
theorem HasC.up {b : Nat} {W W' : World} {p : CA} {d : CD} (h : HasC b W p d) (n : Below W.heap.size W W') : HasC b W' p d := ⟨h.an.up n, h.ban, h.cl.up n, h.sv.up n, h.ts.up n, h.bts, h.tc.up n, h.btc⟩
structure OkC (d : CD) : Prop where
  an : d.an.length ≤ 1048576
  cl : OkE d.cl
  sv : OkE d.sv
  ts : d.ts.length ≤ 1048576
  tc : d.tc.length ≤ 1048576
theorem setL_eq : ∀ (vs cs : List Value) (o : Nat), o + vs.length ≤ cs.length → setL cs o vs = cs.take o ++ vs ++ cs.drop (o + vs.length)
  | [], cs, o, _ => by simp [setL]
  | v :: r, cs, o, h => by
    have h' : o + 1 + r.length ≤ cs.length := by simp only [List.length_cons] at h; omega
    have ho : o < cs.length := by omega
    show setL (cs.set o v) (o + 1) r = _
    rw [setL_eq r (cs.set o v) (o + 1) (by rw [List.length_set]; exact h')]
    rw [List.take_set, List.drop_set_of_lt (by omega)]
    have e : (cs.take (o + 1)).set o v = cs.take o ++ [v] := by
      apply List.ext_getElem?
      intro i
      by_cases hi : i = o
      · subst hi
        rw [List.getElem?_set_self (by rw [List.length_take]; omega), List.getElem?_append_right (by rw [List.length_take]; omega), List.length_take, show i - min i cs.length = 0 by omega]
        rfl
      · rw [List.getElem?_set_ne (by omega)]
        by_cases hl : i < o
        · rw [List.getElem?_append_left (by rw [List.length_take]; omega), List.getElem?_take, List.getElem?_take, if_pos (by omega), if_pos hl]
        · rw [List.getElem?_eq_none (by rw [List.length_take]; omega), List.getElem?_eq_none (by simp only [List.length_append, List.length_take, List.length_cons, List.length_nil]; omega)]
    rw [e]
    simp only [List.length_cons, List.append_assoc, List.cons_append, List.nil_append, show o + 1 + r.length = o + (r.length + 1) by omega]
theorem TMs.puts {w W : World} {tL tM : TypeId} {src zer cs : List Value} (h : TMs w W tL tM src zer cs) (o : Nat) (vs : List Value) (hl : o + vs.length ≤ cs.length) : TMs w (W.setCells (w.heap.size + 1 + 1) o vs) tL tM src zer (cs.take o ++ vs ++ cs.drop (o + vs.length)) := by
  rw [← setL_eq vs cs o hl]
  exact h.sets o vs
/-- The cells of a channel's report. -/
abbrev crL (p : CA) (d : CD) : List Value := [.int .i64 d.fa, .slice p.a1 d.an.length p.c1, .int .i64 d.cl.fa, .slice p.cl.a1 d.cl.an.length p.cl.c1, .slice p.cl.a2 d.cl.se.length p.cl.c2, .slice p.cl.a3 d.cl.re.length p.cl.c3, .int .i64 d.cl.er, .int .i64 d.cl.ph, .int .i64 d.cl.al, .int .i64 d.cl.pa, .int .i64 d.cl.no, .bool d.cl.rs, .bool d.cl.et, .string d.cl.pr, .slice p.cl.a12 d.cl.ex.length p.cl.c12, .slice p.cl.a13 d.cl.tr.length p.cl.c13, .slice p.cl.a14 d.cl.tk.length p.cl.c14, .slice p.cl.a15 d.cl.pk.length p.cl.c15, .slice p.cl.a16 d.cl.rn.length p.cl.c16, .int .i64 d.cl.gt, .int .i64 d.cl.li, .string d.cl.ho, .string d.cl.sp, .int .i64 d.cl.ea, .int .i64 d.cl.wd, .slice p.cl.a23 d.cl.ms.length p.cl.c23, .int .i64 d.sv.fa, .slice p.sv.a1 d.sv.an.length p.sv.c1, .slice p.sv.a2 d.sv.se.length p.sv.c2, .slice p.sv.a3 d.sv.re.length p.sv.c3, .int .i64 d.sv.er, .int .i64 d.sv.ph, .int .i64 d.sv.al, .int .i64 d.sv.pa, .int .i64 d.sv.no, .bool d.sv.rs, .bool d.sv.et, .string d.sv.pr, .slice p.sv.a12 d.sv.ex.length p.sv.c12, .slice p.sv.a13 d.sv.tr.length p.sv.c13, .slice p.sv.a14 d.sv.tk.length p.sv.c14, .slice p.sv.a15 d.sv.pk.length p.sv.c15, .slice p.sv.a16 d.sv.rn.length p.sv.c16, .int .i64 d.sv.gt, .int .i64 d.sv.li, .string d.sv.ho, .string d.sv.sp, .int .i64 d.sv.ea, .int .i64 d.sv.wd, .slice p.sv.a23 d.sv.ms.length p.sv.c23, .slice p.a50 d.ts.length p.c50, .slice p.a51 d.tc.length p.c51]
theorem oneCr (p : CA) (d : CD) : (crL p d : List Value).toArray.all (·.oneCell') = true := all_oneCell_toArray fun v hv => by
  simp only [List.mem_cons, List.not_mem_nil, or_false] at hv
  rcases hv with rfl | rfl | rfl | rfl | rfl | rfl | rfl | rfl | rfl | rfl | rfl | rfl | rfl | rfl | rfl | rfl | rfl | rfl | rfl | rfl | rfl | rfl | rfl | rfl | rfl | rfl | rfl | rfl | rfl | rfl | rfl | rfl | rfl | rfl | rfl | rfl | rfl | rfl | rfl | rfl | rfl | rfl | rfl | rfl | rfl | rfl | rfl | rfl | rfl | rfl | rfl | rfl
  all_goals rfl
theorem iCr : (Tryd.prog.info? 53).map (·.size) = some 52 := by kernel_rfl
theorem rowCr : ∃ d, Tryd.prog.underlying 53 = some d ∧ d.isRow = true := ⟨_, Tryd.underlying53, rfl⟩
theorem iLCr : (Tryd.prog.info? 74).map (·.size) = some 52 := by kernel_rfl
theorem rowLCr : ∃ d, Tryd.prog.underlying 74 = some d ∧ d.isRow = true := ⟨_, Tryd.underlying74, rfl⟩
end Go.Proofs.YtpbniihhpfbamaaDoor

/-
  The lines of a report as lists of bytes (no Go).
-/
namespace Go.Proofs.YtpbniihhpfbamaaDoor
set_option maxRecDepth 100000
open Go Go.RowKit

def itL (n : Int) : List UInt8 := Lib.itoa n
/-- The digits of some bytes. -/
def heT (xs : List Int) : List UInt8 := (ehF xs).data.toList
/-- A text's bytes as numbers. -/
def byL (s : ByteArray) : List Int := s.data.toList.map fun b => (b.toNat : Int)
def flT (b : Bool) : List UInt8 := if b = true then [49] else [48]
def lnL (ws : List (List UInt8)) : List UInt8 := Lib.join ws [32]
theorem ehF_heT (xs : List Int) : (Value.string (ehF xs)) = tx (heT xs) := rfl
theorem heT_len (xs : List Int) : (heT xs).length ≤ 2 * xs.length + 1 := by
  unfold heT ehF
  split
  · simp
  · have h := str_data (heL xs) ByteArray.empty
    have e : (str (heL xs)).data.toList.length = (heL xs).length := by
      unfold str
      rw [h]
      simp
    rw [e, heL_len]
    omega
theorem itL_len (n : Int) (h0 : -9223372036854775808 ≤ n) (h1 : n ≤ 9223372036854775807) : (itL n).length ≤ 21 := by
  unfold itL Lib.itoa
  split
  · rw [List.length_cons, Lib.decDigits_length]
    have := Lib.nDigits_le20 n.natAbs (by omega)
    omega
  · rw [Lib.decDigits_length]
    have := Lib.nDigits_le20 n.toNat (by omega)
    omega
theorem flT_len (b : Bool) : (flT b).length = 1 := by cases b <;> rfl
theorem byL_len (s : ByteArray) : (byL s).length = s.size := by simp [byL]
theorem byL_byt (s : ByteArray) : Byt (byL s) := fun i => by
  unfold byL
  rw [List.getD_eq_getElem?_getD, List.getElem?_map]
  cases h : s.data.toList[i]? with
  | none => simp
  | some b =>
    have := b.toNat_lt
    exact ⟨by simp, by simp; omega⟩
theorem joinT_len (r : List (List UInt8)) : (Lib.joinTail [32] r).length = (r.map (·.length)).sum + r.length := by
  unfold Lib.joinTail
  induction r with
  | nil => rfl
  | cons x r ih =>
    rw [List.map_cons, List.flatten_cons, List.length_append, ih, List.map_cons, List.sum_cons, List.length_cons, List.length_append, List.length_cons, List.length_nil]
    omega
theorem lnL_cons (x : List UInt8) (r : List (List UInt8)) : (lnL (x :: r)).length = x.length + (r.map (·.length)).sum + r.length := by
  unfold lnL
  rw [Lib.join_cons, List.length_append, joinT_len]
  omega
/-- An end's line. -/
def enT (wo : List UInt8) (d : ED) : List UInt8 := lnL [wo, itL d.ph, itL d.al, itL d.pa, itL d.no, flT d.rs, flT d.et, itL d.er, heT (byL d.pr), heT d.ex, heT d.tr, heT d.re]
/-- The line of what is saved. -/
def svT (tk pk rn : List Int) (gt li ea : Int) (ho : List UInt8) (sp : ByteArray) : List UInt8 := lnL [[115, 97, 118, 101, 100], heT tk, heT pk, heT rn, itL gt, itL li, itL ea, ho, heT (byL sp)]
def mkT (m : Mrk) : List UInt8 := lnL [[109, 97, 114, 107], heT m.id, itL m.un]
def waT (ts tc : List Int) : List UInt8 := lnL [[119, 97, 121], heT ts, heT tc]
def cnT (i : Nat) : List UInt8 := lnL [[99, 111, 110, 110, 101, 99, 116, 105, 111, 110], itL (i : Int)]
def clW : List UInt8 := [99, 108, 105, 101, 110, 116]
def svW : List UInt8 := [115, 101, 114, 118, 101, 114]
/-- A connection's lines. -/
def chT (i : Nat) (c : CD) : List (List UInt8) := [cnT i, enT clW c.cl, enT svW c.sv, waT c.ts c.tc]
/-- The line of what is left: there is one even if nothing is. -/
def lfT (tk pk rn : List Int) (gt li ea : Int) (ho sp : ByteArray) : List UInt8 := if tk.length = 0 then lnL [[115, 97, 118, 101, 100], [45]] else svT tk pk rn gt li ea (heT (byL ho)) sp
def wdT (wd : Int) : List UInt8 := lnL [[119, 105, 110, 100, 111, 119], itL wd]
def faT (fa : Int) : List UInt8 := lnL [[102, 97, 117, 108, 116], itL fa]
/-- The lines of the first k connections. -/
def csT (cs : List CD) (d0 : CD) (k : Nat) : List (List UInt8) := ((List.range k).map fun i => chT i (cs.getD i d0)).flatten
theorem csT_succ (cs : List CD) (d0 : CD) (k : Nat) : csT cs d0 (k + 1) = csT cs d0 k ++ chT k (cs.getD k d0) := by
  unfold csT
  rw [List.range_succ, List.map_append, List.flatten_append]
  simp
/-- The lines as one text. -/
def ltT (ls : List (List UInt8)) : List UInt8 := (ls.map (· ++ [10])).flatten
theorem ltT_nil : ltT [] = [] := rfl
theorem ltT_app (a b : List (List UInt8)) : ltT (a ++ b) = ltT a ++ ltT b := by simp [ltT]
theorem ltT_one (x : List UInt8) : ltT [x] = x ++ [10] := by simp [ltT]
/-- The ints of a report are ints. -/
def I64 (n : Int) : Prop := -9223372036854775808 ≤ n ∧ n ≤ 9223372036854775807
structure IrE (d : ED) : Prop where
  ph : I64 d.ph
  al : I64 d.al
  pa : I64 d.pa
  no : I64 d.no
  er : I64 d.er
theorem enT_len {wo : List UInt8} {d : ED} (k : OkE d) (i : IrE d) (hp : d.pr.size ≤ 1048576) (hw : wo.length ≤ 10) : (enT wo d).length ≤ 9000000 := by
  unfold enT
  rw [lnL_cons]
  have h1 := itL_len d.ph i.ph.1 i.ph.2
  have h2 := itL_len d.al i.al.1 i.al.2
  have h3 := itL_len d.pa i.pa.1 i.pa.2
  have h4 := itL_len d.no i.no.1 i.no.2
  have h5 := itL_len d.er i.er.1 i.er.2
  have e1 := flT_len d.rs
  have e2 := flT_len d.et
  have x1 := heT_len (byL d.pr)
  have x2 := heT_len d.ex
  have x3 := heT_len d.tr
  have x4 := heT_len d.re
  rw [byL_len] at x1
  have := k.ex
  have := k.tr
  have := k.re
  simp only [List.map_cons, List.map_nil, List.sum_cons, List.sum_nil, List.length_cons, List.length_nil]
  omega
theorem svT_len {tk pk rn : List Int} {gt li ea : Int} {ho : List UInt8} {sp : ByteArray} (h1 : tk.length ≤ 1048576) (h2 : pk.length ≤ 1048576) (h3 : rn.length ≤ 1048576) (h4 : I64 gt) (h5 : I64 li) (h6 : I64 ea) (h7 : ho.length ≤ 2200000) (h8 : sp.size ≤ 1048576) : (svT tk pk rn gt li ea ho sp).length ≤ 15000000 := by
  unfold svT
  rw [lnL_cons]
  have y1 := itL_len gt h4.1 h4.2
  have y2 := itL_len li h5.1 h5.2
  have y3 := itL_len ea h6.1 h6.2
  have x1 := heT_len tk
  have x2 := heT_len pk
  have x3 := heT_len rn
  have x4 := heT_len (byL sp)
  rw [byL_len] at x4
  simp only [List.map_cons, List.map_nil, List.sum_cons, List.sum_nil, List.length_cons, List.length_nil]
  omega
theorem mkT_len {m : Mrk} (h : m.id.length ≤ 1048576) (i : I64 m.un) : (mkT m).length ≤ 2200000 := by
  unfold mkT
  rw [lnL_cons]
  have y1 := itL_len m.un i.1 i.2
  have x1 := heT_len m.id
  simp only [List.map_cons, List.map_nil, List.sum_cons, List.sum_nil, List.length_cons, List.length_nil]
  omega
theorem waT_len {ts tc : List Int} (h1 : ts.length ≤ 1048576) (h2 : tc.length ≤ 1048576) : (waT ts tc).length ≤ 4300000 := by
  unfold waT
  rw [lnL_cons]
  have x1 := heT_len ts
  have x2 := heT_len tc
  simp only [List.map_cons, List.map_nil, List.sum_cons, List.sum_nil, List.length_cons, List.length_nil]
  omega
theorem one_len {wo : List UInt8} {n : Int} (hw : wo.length ≤ 20) (i : I64 n) : (lnL [wo, itL n]).length ≤ 100 := by
  rw [lnL_cons]
  have y1 := itL_len n i.1 i.2
  simp only [List.map_cons, List.map_nil, List.sum_cons, List.sum_nil, List.length_cons, List.length_nil]
  omega
end Go.Proofs.YtpbniihhpfbamaaDoor

/-
  Owned rows of bytes: stored into, cut.
-/
namespace Go.Proofs.YtpbniihhpfbamaaDoor
set_option maxRecDepth 100000
open Go Go.RowKit

theorem RowB.parts {w : World} {base : Nat} {v : Value} {xs : List Int} (h : RowB w base v xs) (h0 : 0 < xs.length) :
    ∃ (g cap : Nat), v = .slice (some ⟨g, 0, none⟩) xs.length cap ∧ base ≤ g ∧ xs.length ≤ cap ∧ (∀ i, i < xs.length → w.cell? ⟨g, i, none⟩ = some (.int .u8 (xs.getD i 0))) ∧ (∀ i, w.frozen? ⟨g, i, none⟩ = false) ∧
      (∀ i z, i < xs.length → RowB (w.setCell ⟨g, i, none⟩ (.int .u8 z)) base v (xs.set i z)) ∧ (∀ n, n ≤ xs.length → RowB w base (.slice (some ⟨g, 0, none⟩) n cap) (xs.take n)) := by
  obtain ⟨hl, ⟨_, h2⟩ | ⟨g, cap, cur, rfl, hb, hg, hn, hm, hs, ht⟩⟩ := h
  · omega
  · have hs' : cur.size = cap := by omega
    rw [Nat.mul_one] at ht
    have hcell : ∀ i, i < xs.length → cur[i]? = some (.int .u8 (xs.getD i 0)) := fun i hi => by
      have := congrArg (fun l => l[i]?) ht
      simp only [List.getElem?_take, if_pos hi, List.getElem?_map, Array.getElem?_toList] at this
      rw [this, List.getElem?_eq_getElem hi, List.getD_eq_getElem?_getD, List.getElem?_eq_getElem hi]
      rfl
    refine ⟨g, cap, rfl, hb, hn, fun i hi => ?_, fun i => ?_, fun i z hi => ⟨by simp, .inr ⟨g, cap, cur.setIfInBounds i (.int .u8 z), by simp, hb, ?_, by simpa using hn, hm, by simpa using hs, ?_⟩⟩, fun n hn' => ⟨by simp, .inr ⟨g, cap, cur, by rw [List.length_take, Nat.min_eq_left hn'], hb, hg, by rw [List.length_take]; omega, hm, hs, ?_⟩⟩⟩
    · simp [World.cell?, hg, hcell i hi]
    · simp [World.frozen?, hg]
    · show (w.heap.modify g _)[g]? = _
      rw [Array.getElem?_modify, if_pos rfl, hg]
      rfl
    · rw [Nat.mul_one, List.length_set, Array.toList_setIfInBounds, List.take_set, ht, List.map_set]
    · rw [Nat.mul_one, List.length_take, Nat.min_eq_left hn', List.map_take, ← ht, List.take_take, Nat.min_eq_left hn']
theorem byt_setR {ys : List Int} (h : Byt ys) (k : Nat) (z : Int) (h0 : 0 ≤ z) (h1 : z < 256) : Byt (ys.set k z) := fun i => by
  by_cases e : k = i
  · subst e
    by_cases hl : k < ys.length
    · rw [getD_set_self _ _ _ hl]; exact ⟨h0, h1⟩
    · rw [List.set_eq_of_length_le (by omega)]; exact h k
  · rw [getD_set_ne _ _ _ _ e]; exact h i
theorem byt_takeR {ys : List Int} (h : Byt ys) (k : Nat) : Byt (ys.take k) := fun i => by
  by_cases e : i < k
  · rw [List.getD_eq_getElem?_getD, List.getElem?_take, if_pos e, ← List.getD_eq_getElem?_getD]; exact h i
  · rw [List.getD_eq_getElem?_getD, List.getElem?_take, if_neg e]; simp
theorem byt_app1R {ys : List Int} (h : Byt ys) (z : Int) (h0 : 0 ≤ z) (h1 : z < 256) : Byt (ys ++ [z]) := fun i => by
  by_cases c : i < ys.length
  · rw [List.getD_eq_getElem?_getD, List.getElem?_append_left c, ← List.getD_eq_getElem?_getD]; exact h i
  · rw [List.getD_eq_getElem?_getD, List.getElem?_append_right (by omega)]
    by_cases e : i - ys.length = 0
    · rw [e]; exact ⟨h0, h1⟩
    · rw [List.getElem?_eq_none (by simp; omega)]; decide
end Go.Proofs.YtpbniihhpfbamaaDoor

/-
  Rows of bytes that a text was turned into: the cell behind their end is marked, all others are free.
-/
namespace Go.Proofs.YtpbniihhpfbamaaDoor
set_option maxRecDepth 100000
open Go Go.RowKit

def RowS (w : World) (base : Nat) (v : Value) (xs : List Int) : Prop :=
  ∃ (g cap : Nat) (cur : Array Value) (fz : Nat × Nat), v = .slice (some ⟨g, 0, none⟩) xs.length cap ∧ base ≤ g ∧ w.heap[g]? = some (.cells cur 5 fz) ∧ (fz = (0, 0) ∨ cur.size ≤ fz.1) ∧ xs.length ≤ cap ∧ cap ≤ maxLen ∧ cur.size = cap ∧ cur.toList.take xs.length = xs.map (Value.int .u8)
theorem RowS.of_block {w w' : World} {base : Nat} {v : Value} {xs : List Int} (h : RowS w base v xs) (hb : ∀ g, base ≤ g → g < w.heap.size → w'.heap[g]? = w.heap[g]?) : RowS w' base v xs := by
  obtain ⟨g, cap, cur, fz, rfl, hbg, hg, r⟩ := h
  exact ⟨g, cap, cur, fz, rfl, hbg, by rw [hb g hbg ((Array.getElem?_eq_some_iff.1 hg).1)]; exact hg, r⟩
theorem RowS.up {w w' : World} {base : Nat} {v : Value} {xs : List Int} (h : RowS w base v xs) (hb : Below w.heap.size w w') : RowS w' base v xs := h.of_block fun g _ hg => hb.block g hg
theorem RowS.only {w w' : World} {base q : Nat} {v : Value} {xs : List Int} (h : RowS w base v xs) (hb : Only q w w') (hq : q < base) : RowS w' base v xs := h.of_block fun g h1 _ => hb.block g (by omega)
theorem frz {w : World} {g : Nat} {cur : Array Value} {e : TypeId} {fz : Nat × Nat} (hg : w.heap[g]? = some (.cells cur e fz)) (h : fz = (0, 0) ∨ cur.size ≤ fz.1) (i : Nat) (hi : i < cur.size) : w.frozen? ⟨g, i, none⟩ = false := by
  obtain ⟨lo, hi'⟩ := fz
  simp only [World.frozen?, hg, Bool.and_eq_false_iff, decide_eq_false_iff_not]
  rcases h with h | h
  · cases h
    right
    omega
  · left
    simp only at h
    omega
theorem RowS.rd {w : World} {base : Nat} {v : Value} {xs : List Int} (h : RowS w base v xs) : ∃ (a : Option Addr) (c g : Nat), v = .slice a xs.length c ∧ Rd w g a .u8 xs := by
  obtain ⟨g, cap, cur, fz, rfl, hb, hg, hf, hn, hm, hs, ht⟩ := h
  refine ⟨_, cap, g, rfl, fun _ => ⟨0, rfl, fun i hi => ?_⟩⟩
  have := congrArg (fun l => l[i]?) ht
  simp only [List.getElem?_take, if_pos hi, List.getElem?_map, Array.getElem?_toList] at this
  rw [Nat.zero_add]
  simp only [World.cell?, hg, this, List.getElem?_eq_getElem hi, List.getD_eq_getElem?_getD]
  rfl
theorem RowS.parts {w : World} {base : Nat} {v : Value} {xs : List Int} (h : RowS w base v xs) :
    ∃ (g cap : Nat), v = .slice (some ⟨g, 0, none⟩) xs.length cap ∧ base ≤ g ∧ xs.length ≤ cap ∧ (∀ i, i < xs.length → w.cell? ⟨g, i, none⟩ = some (.int .u8 (xs.getD i 0))) ∧ (∀ i, i < xs.length → w.frozen? ⟨g, i, none⟩ = false) ∧
      (∀ i z, i < xs.length → RowS (w.setCell ⟨g, i, none⟩ (.int .u8 z)) base v (xs.set i z)) ∧ (∀ n, n ≤ xs.length → RowS w base (.slice (some ⟨g, 0, none⟩) n cap) (xs.take n)) := by
  obtain ⟨a, c, g', e, hr⟩ := h.rd
  obtain ⟨g, cap, cur, fz, rfl, hb, hg, hf, hn, hm, hs, ht⟩ := h
  injection e with e1 e2 e3
  subst e1
  refine ⟨g, cap, rfl, hb, hn, fun i hi => ?_, fun i hi => frz hg hf i (by omega), fun i z hi => ⟨g, cap, cur.setIfInBounds i (.int .u8 z), fz, by simp, hb, ?_, by simpa using hf, by simpa using hn, hm, by simpa using hs, ?_⟩, fun n hn' => ⟨g, cap, cur, fz, by rw [List.length_take, Nat.min_eq_left hn'], hb, hg, hf, by rw [List.length_take]; omega, hm, hs, ?_⟩⟩
  · obtain ⟨o, eo, hc⟩ := hr (by omega)
    have := hc i hi
    cases eo
    simpa using this
  · show (w.heap.modify g _)[g]? = _
    rw [Array.getElem?_modify, if_pos rfl, hg]
    rfl
  · rw [List.length_set, Array.toList_setIfInBounds, List.take_set, ht, List.map_set]
  · rw [List.length_take, Nat.min_eq_left hn', List.map_take, ← ht, List.take_take, Nat.min_eq_left hn']
/-- One byte appended. -/
theorem append_S {P : Program} (w : World) (ty : TypeId) (i : TypeInfo) (ht : P.underlying 23 = some (.slice 5)) (hi : P.info? 5 = some i) (hz : i.zero = some (.int .u8 0)) (hsize : i.size = 1) (hby : i.bytes = 1)
    (base B : Nat) (v : Value) (xs : List Int) (hown : RowS w base v xs) (g2 c : Nat) (x : Int) (hx : w.cell? ⟨g2, 0, none⟩ = some (.int .u8 x)) (hl : xs.length ≤ 1048576) (hB : B ≤ base) (hbase : base ≤ w.heap.size) :
    ∃ v' w', (Builtin.append_ #[23, 23] ty #[v, .slice (some ⟨g2, 0, none⟩) 1 c]).run P w = .ok v' w' ∧ RowS w' base v' (xs ++ [x]) ∧ Below B w w' := by
  obtain ⟨g, cap, cur, fz, rfl, hb, hg, hf, hn, hm, hs, htk⟩ := hown
  have hnews : ∀ j u, [Value.int .u8 x][j]? = some u → w.cell? ((⟨g2, 0, none⟩ : Addr).add j) = some u := by
    intro j u hj
    have : j < 1 := (List.getElem?_eq_some_iff.1 hj).1
    obtain rfl : j = 0 := by omega
    simp at hj
    rw [← hj]
    exact hx
  by_cases hroom : xs.length + 1 ≤ cap
  · have hfr := frz hg hf xs.length (by omega)
    have hcl : xs.length < cur.size := by omega
    have hcell : w.cell? ⟨g, xs.length, none⟩ = some cur[xs.length] := by simp [World.cell?, hg, hcl]
    have hf2 := run_firstCells_some (P := P) w 1 1 ⟨g2, 0, none⟩ 1 c [Value.int .u8 x] (by simp) hnews
    have hst : (storeCells ⟨g, xs.length, none⟩ [Value.int .u8 x] 0).run P w = .ok () (w.setRow g (cur.setIfInBounds xs.length (.int .u8 x))) := by
      have hadd : (⟨g, xs.length, none⟩ : Addr).add 0 = ⟨g, xs.length, none⟩ := by unfold Addr.add; split <;> simp_all
      have h1 : (store ((⟨g, xs.length, none⟩ : Addr).add 0) (Value.int .u8 x)).run P w = .ok () (w.setRow g (cur.setIfInBounds xs.length (.int .u8 x))) := by
        rw [hadd, run_store P w _ (Value.int .u8 x) _ rfl, hcell]
        simp [hfr, setCell_eq_setRow w g xs.length cur 5 fz (Value.int .u8 x) hg]
      simp only [storeCells, Sem.run_bind, h1, Result.andThen_ok]
      rfl
    refine ⟨.slice (some ⟨g, 0, none⟩) (xs.length + 1) cap, w.setRow g (cur.setIfInBounds xs.length (.int .u8 x)), ?_, ⟨g, cap, _, fz, by simp, hb, setRow_heap w g cur _ 5 _ hg, by simpa using hf, by simpa using hroom, hm, by simpa using hs, ?_⟩, ⟨rfl, rfl, rfl, by simp, fun k hk => setRow_other w g k _ (by omega)⟩⟩
    · simp [Builtin.append_, run_underlying ht, sizeOf, typeInfo, hi, hsize, Builtin.lenOf, hroom, hf2, Addr.add_lit, hst]
    · have hl2 : xs.length < cur.toList.length := by simpa using hcl
      rw [Array.toList_setIfInBounds, List.length_append, List.length_singleton, List.take_add_one, List.take_set, htk, List.set_eq_of_length_le (by simp), List.map_append, List.getElem?_set_self hl2]
      rfl
  · have holds : ∀ j u, (xs.map (Value.int .u8))[j]? = some u → w.cell? ((⟨g, 0, none⟩ : Addr).add j) = some u := by
      intro j u hj
      have hadd : (⟨g, 0, none⟩ : Addr).add j = ⟨g, j, none⟩ := by unfold Addr.add; split <;> simp_all
      rw [hadd, cell_of_row w g j cur 5 fz hg]
      rw [← htk, List.getElem?_take] at hj
      split at hj
      · simpa using hj
      · cases hj
    have hml : maxLen = 9223372036854775807 := rfl
    have hr := run_append_grow (P := P) w 23 ty 5 i (.int .u8 0) ht hi hz ⟨g, 0, none⟩ xs.length cap (xs.map (Value.int .u8)) (by rw [hsize]; simp) holds ⟨g2, 0, none⟩ 1 c [Value.int .u8 x] (by rw [hsize]; rfl) hnews (by omega) (by omega) (by rw [hby]; exact growslice_fits (by omega) (by omega))
    have hge := grownCap_ge w (xs.length + 1) cap 5
    have hcm2 : grownCap w (xs.length + 1) cap 5 ≤ maxLen := grownCap_le_maxLen w (xs.length + 1) cap 5 (by omega)
    refine ⟨_, _, hr, ⟨w.heap.size, _, _, (0, 0), by simp, hbase, heap_alloc_new w.drew _, .inl rfl, by simpa using hge, hcm2, ?_, ?_⟩, ⟨rfl, rfl, rfl, by simp, fun k hk => by
      have hk' : k < w.drew.heap.size := by show k < w.heap.size; omega
      have hne : ¬ (k = w.drew.heap.size) := by omega
      show (w.drew.heap.push _)[k]? = _
      rw [Array.getElem?_push, if_neg hne]
      rfl⟩⟩
    · have hz1 : (Value.int IntKind.u8 0).cells.size = 1 := rfl
      simp only [Array.size_append, List.size_toArray, size_zeroCells, hz1, List.length_map, List.length_singleton]
      omega
    · simp only [Array.toList_append, List.append_assoc]
      rw [← List.append_assoc, List.map_append, List.length_append, List.length_singleton]
      have e : (xs.map (Value.int .u8) ++ [Value.int .u8 x]).length = xs.length + 1 := by simp
      rw [← e]
      exact List.take_left
/-- A text turned into bytes. -/
theorem convS (w : World) (l : List UInt8) (hl : l.length ≤ 1048576) : ∃ (v : Value) (w' : World), (convert 9 23 (.string ⟨⟨l⟩⟩)).run Tryd.prog w = .ok v w' ∧ RowS w' w.heap.size v (l.map fun b => (b.toNat : Int)) ∧ Below w.heap.size w w' := by
  have hml : maxLen = 9223372036854775807 := rfl
  have hge := grownCap_ge w l.length 0 5
  refine ⟨_, _, Lib.run_convert_string_bytes w 9 23 5 ⟨⟨l⟩⟩ Tryd.underlying9 Tryd.underlying23 Tryd.underlying5, ⟨w.heap.size, grownCap w l.length 0 5, _, _, by rw [List.length_map]; rfl, Nat.le_refl _, Lib.bytesWorld_at_new w 5 _, .inr (Nat.le_refl _), by simpa using hge, grownCap_le_maxLen w _ _ _ (by omega), ?_, ?_⟩, ⟨rfl, rfl, rfl, by rw [Lib.bytesWorld_size]; omega, fun b hb => Lib.bytesWorld_at_old w 5 _ b hb⟩⟩
  · have : (ByteArray.mk ⟨l⟩).size = l.length := rfl
    simp only [Lib.bytesCells, Array.size_append, Array.size_map, Array.size_replicate, this]
    show l.length + _ = _
    omega
  · rw [List.length_map]
    simp only [Lib.bytesCells, Array.toList_append, Array.toList_map]
    rw [List.take_append_of_le_length (by simp)]
    simp [List.take_of_length_le]
end Go.Proofs.YtpbniihhpfbamaaDoor

/-
  The words of a line: the program's and the model's.
-/
namespace Go.Proofs.YtpbniihhpfbamaaDoor
set_option maxRecDepth 100000
open Go Go.RowKit

/-- The table that FormatInt reads. -/
def HasW (w : World) : Prop := Lib.TabIs Tryd.prog w "internal/strconv.uint64pow10" .u64 Lib.pow10Tab
theorem HasW.up {w w' : World} (h : HasW w) (n : Below w.heap.size w w') : HasW w' := Lib.tabBelow_of_tabIs h w' n
theorem numberWord_any (w : World) (hW : HasW w) (n : Int) (i : I64 n) : Calls Tryd.prog 24 #[.int .i64 n] w fun e w' => e = .returned (tx (itL n)) ∧ Below w.heap.size w w' := by
  have FI := hide (Tryd.strconv_FormatInt_10 n i.1 i.2 w hW)
  go_enter Tryd.func24, Tryd.ntmps24
  go_wp2_with (go_at_call 41; refine FI.out.mono ?_; rintro e w1 ⟨rfl, k, os, rfl⟩)
  have HB := hide (Lib.below_grow w.heap.size w (Nat.le_refl _) k os)
  go_wp2
  go_ret
  exact ⟨rfl, HB.out⟩
theorem flagWord_any (w : World) (hW : HasW w) (b : Bool) : Calls Tryd.prog 75 #[.bool b] w fun e w' => e = .returned (tx (flT b)) ∧ Below w.heap.size w w' := by
  have N1 := hide (numberWord_any w hW 1 (by unfold I64; omega))
  have N0 := hide (numberWord_any w hW 0 (by unfold I64; omega))
  have e1 : itL 1 = [49] := by rw [itL, show (1 : Int) = ((1 : Nat) : Int) from rfl, Lib.itoa_nonneg, Lib.decDigits_one (by decide)]; rfl
  have e0 : itL 0 = [48] := by rw [itL, show (0 : Int) = ((0 : Nat) : Int) from rfl, Lib.itoa_nonneg, Lib.decDigits_one (by decide)]; rfl
  rw [e1] at N1
  rw [e0] at N0
  clear e1 e0
  cases b with
  | true =>
    go_enter Tryd.func75, Tryd.ntmps75
    go_wp2_with fail
    refine N1.out.mono ?_
    rintro e w1 ⟨rfl, n1⟩
    have NN := hide n1
    clear n1
    unfold tx
    go_wp2
    go_ret
    exact ⟨rfl, NN.out⟩
  | false =>
    go_enter Tryd.func75, Tryd.ntmps75
    go_wp2_with fail
    refine N0.out.mono ?_
    rintro e w1 ⟨rfl, n1⟩
    have NN := hide n1
    clear n1
    unfold tx
    go_wp2
    go_ret
    exact ⟨rfl, NN.out⟩
theorem mk_toL (s : ByteArray) : s = ⟨⟨s.data.toList⟩⟩ := rfl
theorem textWord_any (w : World) (s : ByteArray) (hs : s.size ≤ 1048576) : Calls Tryd.prog 63 #[.string s] w fun e w' => e = .returned (tx (heT (byL s))) ∧ Below w.heap.size w w' := by
  have sl : s.data.toList.length ≤ 1048576 := hs
  obtain ⟨v, w1, hc, hR, n1⟩ := convS w s.data.toList sl
  rw [← mk_toL] at hc
  obtain ⟨a, c, g, rfl, R⟩ := hR.rd
  have CL := hide (implEncodeHex_any w1 g a c (byL s) R (byL_byt s) (by rw [byL_len]; exact hs))
  have hc' : (convert 9 23 (.string s)).run Tryd.prog w = .ok (.slice a (byL s).length c) w1 := hc
  clear hc hR R
  generalize (byL s).length = m at *
  go_enter Tryd.func63, Tryd.ntmps63
  go_wp2_with fail
  refine CL.out.mono ?_
  rintro e w2 ⟨rfl, n2⟩
  have NN := hide (n1.trans (n2.mono n1.size))
  clear n2 n1
  go_wp2
  go_ret
  exact ⟨rfl, NN.out⟩
/-- The words' row, joined. -/
theorem lineOf_any (w : World) (q : Nat) (ls : List (List UInt8)) (n : Nat) (hn : ls.length = n) (h0 : 0 < n) (hB : BlkT w q ls) (hl : (lnL ls).length ≤ 140737488355328) (hk : ls.length ≤ 1000) :
    Calls Tryd.prog 23 #[.slice (some ⟨q, 0, none⟩) n n] w fun e w' => e = .returned (tx (lnL ls)) ∧ Below w.heap.size w w' := by
  subst hn
  have m1 : (ls.map fun l => (⟨⟨l⟩⟩ : ByteArray)).map (·.data.toList) = ls := by
    rw [List.map_map]
    exact List.map_id ls
  have JN := Tryd.strings_Join q 0 ls.length (ls.map fun l => ⟨⟨l⟩⟩) ⟨#[32]⟩ w (fun j x hj => by
    rw [List.getElem?_map] at hj
    cases e : ls[j]? with
    | none => rw [e] at hj; cases hj
    | some l =>
      rw [e] at hj
      simp only [Option.map_some, Option.some.injEq] at hj
      subst hj
      have hjl := (List.getElem?_eq_some_iff.1 e).1
      rw [Nat.zero_add, hB.cell hjl, List.getD_eq_getElem?_getD, e]
      rfl) hB.lt (by simp; omega) (by simp) (by rw [m1]; exact hl)
  rw [m1, List.length_map] at JN
  have JN' : Hid (Calls Tryd.prog 40 #[.slice (some ⟨q, 0, none⟩) ls.length ls.length, .string ⟨#[32]⟩] w fun e w' => e = .returned (tx (lnL ls)) ∧ Below w.heap.size w w') := JN
  clear JN m1 hB hl hk
  generalize lnL ls = T at *
  generalize ls.length = n at *
  go_enter Tryd.func23, Tryd.ntmps23
  go_wp2_with (go_at_call 40; refine JN'.out.mono ?_; rintro e w1 ⟨rfl, n1⟩)
  have NN := hide n1
  clear n1
  unfold tx
  go_wp2
  go_ret
  exact ⟨rfl, NN.out⟩
end Go.Proofs.YtpbniihhpfbamaaDoor

/-
  The words of a line: the model's.
-/
namespace Go.Proofs.YtpbniihhpfbamaaDoor
set_option maxRecDepth 100000
open Go Go.RowKit

/-- Where the model's loop over digits stands. -/
def DgR (N v : Nat) (out : List UInt8) : Prop := (if v < 10 then out else Lib.decDigits (v / 10) ++ out) = Lib.decDigits N
theorem DgR.start (N : Nat) : DgR N N [UInt8.ofNat (48 + N % 10)] := by
  unfold DgR
  rw [Lib.decDigits.eq_def N]
  by_cases h : N < 10
  · rw [if_pos h, dif_pos h, Nat.mod_eq_of_lt h]
  · rw [if_neg h, dif_neg h]
theorem DgR.next {N v : Nat} {out : List UInt8} (h : DgR N v out) (hv : ¬ v < 10) : DgR N (v / 10) ([UInt8.ofNat (48 + v / 10 % 10)] ++ out) := by
  unfold DgR at h ⊢
  rw [if_neg hv] at h
  rw [← h, Lib.decDigits.eq_def (v / 10)]
  by_cases h2 : v / 10 < 10
  · rw [if_pos h2, dif_pos h2, Nat.mod_eq_of_lt h2]
  · rw [if_neg h2, dif_neg h2, List.append_assoc]
theorem DgR.len {N v : Nat} {out : List UInt8} (h : DgR N v out) (hN : N < 18446744073709551616) : out.length ≤ 20 := by
  unfold DgR at h
  have := Lib.nDigits_le20 N hN
  have e := congrArg List.length h
  rw [Lib.decDigits_length] at e
  split at e
  · omega
  · rw [List.length_append] at e; omega
theorem DgR.stop {N v : Nat} {out : List UInt8} (h : DgR N v out) (hv : v < 10) : out = Lib.decDigits N := by
  unfold DgR at h
  rwa [if_pos hv] at h
/-- One byte as a text. -/
theorem conv1 (w : World) (z : Int) : (convert 23 9 (.slice (some ⟨w.heap.size, 0, none⟩) 1 1)).run Tryd.prog (w.alloc (.cells #[.int .u8 z] 5)) = .ok (.string ⟨⟨[UInt8.ofNat z.toNat]⟩⟩) (w.alloc (.cells #[.int .u8 z] 5)) := by
  have hB : Blk (w.alloc (.cells #[.int .u8 z] 5)) w.heap.size .u8 [z] := ⟨5, heap_alloc_new w _⟩
  exact conv_run (w.alloc (.cells #[.int .u8 z] 5)) w.heap.size (some ⟨w.heap.size, 0, none⟩) 1 [z] hB.own0.rd
theorem dgB (v : Nat) : UInt8.ofNat (48 + ((v : Int) % 10)).toNat = UInt8.ofNat (48 + v % 10) := by
  have : (48 + ((v : Int) % 10)).toNat = 48 + v % 10 := by omega
  rw [this]
set_option maxHeartbeats 1000000 in
theorem l20NumberN (w : World) (N : Nat) (hN : N ≤ 9223372036854775807) : Calls Tryd.prog 13 #[.int .i64 (N : Int)] w fun e w' => e = .returned (tx (Lib.decDigits N)) ∧ Below w.heap.size w w' := by
  have t1 : ((N : Int) == -9223372036854775808) = false := beq_eq_false_iff_ne.2 (by omega)
  have t2 : decide ((N : Int) < 0) = false := decide_eq_false (by omega)
  have n1 : Below w.heap.size w (w.alloc (.cells #[.int .u8 (48 + (N : Int) % 10)] 5)) := (Below.refl _ _).alloc (Nat.le_refl _) _
  have N1 := hide n1
  have C1 := conv1 w (48 + (N : Int) % 10)
  have ST := hide (DgR.start N)
  have b8 : IntKind.u8.wrap (48 + (N : Int) % 10) = 48 + (N : Int) % 10 := by rw [IntKind.wrap_u8]; omega
  clear n1
  go_enter Tryd.func13, Tryd.ntmps13
  go_upto_region 6 with fail
  clear C1 b8
  generalize w.alloc (.cells #[.int .u8 (48 + (N : Int) % 10)] 5) = w1 at *
  generalize [UInt8.ofNat (48 + N % 10)] = d0 at *
  go_loopw [0, 3] (fun v s wr => ∃ (k : Nat) (out : List UInt8), v = .int .i64 (k : Int) ∧ s = .string ⟨⟨out⟩⟩ ∧ k ≤ N ∧ Hid (DgR N k out) ∧ Hid (Below w.heap.size w wr)) (fun v _ _ => (intOf v).toNat)
  case atStart => exact ⟨N, d0, rfl, rfl, Nat.le_refl _, ST, N1⟩
  case round =>
    clear ST N1
    obtain ⟨k, out, rfl, rfl, hk, D, B⟩ := hrel
    by_cases h10 : k < 10
    · have x1 : decide ((10 : Int) ≤ (k : Int)) = false := decide_eq_false (by omega)
      have x1' : ¬ (10 : Int) ≤ (k : Int) := by omega
      have E := hide (D.out.stop h10)
      clear D h10
      go_wp2
      go_ret
      exact ⟨by rw [← E.out]; rfl, B.out⟩
    · have x1 : decide ((10 : Int) ≤ (k : Int)) = true := decide_eq_true (by omega)
      have x1' : (10 : Int) ≤ (k : Int) := by omega
      have ol := D.out.len (by omega)
      have D2 := hide (D.out.next h10)
      obtain ⟨j, hj⟩ : ∃ j, j = k / 10 := ⟨_, rfl⟩
      have x2 : (k : Int) / 10 = (j : Int) := by omega
      have jk : j < k := by omega
      rw [← hj] at D2
      have C2 := conv1 wr (48 + (j : Int) % 10)
      have dj := dgB j
      generalize UInt8.ofNat (48 + ((j : Int) % 10)).toNat = d at *
      rw [← dj] at D2
      have b8 : IntKind.u8.wrap (48 + (j : Int) % 10) = 48 + (j : Int) % 10 := by rw [IntKind.wrap_u8]; omega
      have AD : ∀ W : World, (Op.stringOp .add (ByteArray.mk ⟨[d]⟩) (ByteArray.mk ⟨out⟩)).run Tryd.prog W = .ok (.string ⟨⟨[d] ++ out⟩⟩) W := fun W => tx_add W _ out (by simp; omega)
      have B2 : Hid (Below w.heap.size w (wr.alloc (.cells #[.int .u8 (48 + (j : Int) % 10)] 5))) := B.out.alloc B.out.size _
      clear D B h10 hj ol dj
      generalize [d] ++ out = out2 at *
      go_wp2
      go_roundw
      case rel => exact ⟨j, out2, rfl, rfl, by omega, D2, B2⟩
      case measure => simp [intOf]; omega
end Go.Proofs.YtpbniihhpfbamaaDoor
