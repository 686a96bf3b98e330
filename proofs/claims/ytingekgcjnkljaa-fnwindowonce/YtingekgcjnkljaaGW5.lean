import Derived.Test.YtingekgcjnkljaaGW4

/-
  Rows of int64: counted, copied, held against each other; windows; what an end's report reads as (written by gens/kmc.py).
-/
namespace Go.Proofs.Ytingekgcjnkljaa
open Go Go.RowKit

theorem infoI64 : (Try.prog.info? 2).map (fun i => (i.zero, i.size, i.bytes)) = some (some (.int .i64 0), 1, 8) := by kernel_rfl
theorem i64Parts : ∃ i0, Try.prog.info? 2 = some i0 ∧ i0.zero = some (.int .i64 0) ∧ i0.size = 1 ∧ i0.bytes = 8 := by
  have h := infoI64
  cases hq : Try.prog.info? 2 with
  | none => rw [hq] at h; simp at h
  | some i0 =>
    rw [hq] at h
    simp only [Option.map_some, Option.some.injEq, Prod.mk.injEq] at h
    exact ⟨i0, rfl, h.1, h.2.1, h.2.2⟩
theorem Rd.onlK {w w' : World} {g q : Nat} {a : Option Addr} {k : IntKind} {xs : List Int} (h : Rd w g a k xs) (O : Only q w w') (hne : g ≠ q) : Rd w' g a k xs := fun h0 => h.of_block (O.block g hne) h0
/-- A list that was copied: all of it lies at b or above. -/
structure CpS (b : Nat) (W : World) (p : Nat) (k : IntKind) (xs : List Int) : Prop where
  rd : Rd W p (some ⟨p, 0, none⟩) k xs
  lo : b ≤ p
theorem CpS.of {b : Nat} {W : World} {p : Nat} {k : IntKind} {xs : List Int} (h : Blk W p k xs) (l : b ≤ p) : CpS b W p k xs := ⟨h.own0.rd, l⟩
theorem CpS.up {b : Nat} {W W' : World} {p : Nat} {k : IntKind} {xs : List Int} (h : CpS b W p k xs) (n : Below W.heap.size W W') : CpS b W' p k xs := ⟨h.rd.up n, h.lo⟩
theorem CpS.onl {b q : Nat} {W W' : World} {p : Nat} {k : IntKind} {xs : List Int} (h : CpS b W p k xs) (O : Only q W W') (hq : q < b) : CpS b W' p k xs := ⟨h.rd.onlK O (by have := h.lo; omega), h.lo⟩
/-- Marks that were copied. -/
structure CpK (b : Nat) (W : World) (p : Nat) (ms : List Mrk) (ps : List Plm) : Prop where
  rd : RdK W p (some ⟨p, 0, none⟩) ms ps
  lo : b ≤ p
  los : ∀ i, i < ms.length → b ≤ (ps.getD i plm0).q
theorem CpK.up {b : Nat} {W W' : World} {p : Nat} {ms : List Mrk} {ps : List Plm} (h : CpK b W p ms ps) (n : Below W.heap.size W W') : CpK b W' p ms ps := ⟨h.rd.up n, h.lo, h.los⟩
theorem RdK.onl {w w' : World} {g q : Nat} {a : Option Addr} {ms : List Mrk} {ps : List Plm} (h : RdK w g a ms ps) (O : Only q w w') (hg : g ≠ q) (hs : ∀ i, i < ms.length → (ps.getD i plm0).q ≠ q) : RdK w' g a ms ps :=
  ⟨fun h0 => by
    obtain ⟨off, e, hc⟩ := h.r h0
    exact ⟨off, e, fun i hi => ⟨(World.cell?_of_block (O.block g hg)).trans (hc i hi).1, (World.cell?_of_block (O.block g hg)).trans (hc i hi).2⟩⟩,
   fun i hi => (h.b i hi).onlK O (hs i hi)⟩
theorem CpK.onl {b q : Nat} {W W' : World} {p : Nat} {ms : List Mrk} {ps : List Plm} (h : CpK b W p ms ps) (O : Only q W W') (hq : q < b) : CpK b W' p ms ps := ⟨h.rd.onl O (by have := h.lo; omega) (fun i hi => by have := h.los i hi; omega), h.lo, h.los⟩
/-- Cells put into a list, one behind the other. -/
def setL (cs : List Value) : Nat → List Value → List Value
  | _, [] => cs
  | o, v :: r => setL (cs.set o v) (o + 1) r
theorem TMs.sets {w W : World} {tL tM : TypeId} {src zer cs : List Value} (h : TMs w W tL tM src zer cs) (o : Nat) (vs : List Value) : TMs w (W.setCells (w.heap.size + 1 + 1) o vs) tL tM src zer (setL cs o vs) := by
  induction vs generalizing W cs o with
  | nil => exact h
  | cons v r ih => exact ih (h.set o v) (o + 1)
theorem RwC.part {w : World} {q : Nat} {cs : List Value} {t : TypeId} (h : RwC w q cs t) (o : Nat) (l : List Value) (hl : (cs.drop o).take l.length = l) : w.rangeAt q o l := fun j v hj => by
  rw [h.cell (o + j)]
  rw [← hl] at hj
  rw [List.getElem?_take] at hj
  split at hj
  · rw [List.getElem?_drop] at hj
    exact hj
  · simp at hj
theorem RwC.tpart {w : World} {q : Nat} {cs : List Value} {t : TypeId} (h : RwC w q cs t) (o n : Nat) (hl : o + n ≤ cs.length) : w.there q o n := fun j hj => by
  rw [h.cell (o + j), h.free (o + j)]
  exact ⟨by rw [List.getElem?_eq_getElem (by omega)]; simp, rfl⟩
theorem iWd : (Try.prog.info? 25).map (·.size) = some 2 := by kernel_rfl
theorem rowWd : ∃ d, Try.prog.underlying 25 = some d ∧ d.isRow = true := ⟨_, Try.underlying25, rfl⟩
theorem oneWd (wd : Int) (a : Option Addr) (n c : Nat) : ([.int .i64 wd, .slice a n c] : List Value).toArray.all (·.oneCell') = true := all_oneCell_toArray fun v hv => by
  simp only [List.mem_cons, List.not_mem_nil, or_false] at hv
  rcases hv with rfl | rfl
  all_goals rfl
end Go.Proofs.Ytingekgcjnkljaa

/-
  Windows and the report of an end, copied (written by gens/kmd.py).
-/
namespace Go.Proofs.Ytingekgcjnkljaa
open Go Go.RowKit

theorem CpS.mono {b b' : Nat} {W : World} {p : Nat} {k : IntKind} {xs : List Int} (h : CpS b W p k xs) (l : b' ≤ b) : CpS b' W p k xs := ⟨h.rd, Nat.le_trans l h.lo⟩
theorem CpK.mono {b b' : Nat} {W : World} {p : Nat} {ms : List Mrk} {ps : List Plm} (h : CpK b W p ms ps) (l : b' ≤ b) : CpK b' W p ms ps := ⟨h.rd, Nat.le_trans l h.lo, fun i hi => Nat.le_trans l (h.los i hi)⟩
/-- The report of an end as data. -/
structure ED where
  fa : Int
  an : List Int
  se : List Int
  re : List Int
  er : Int
  ph : Int
  al : Int
  pa : Int
  no : Int
  rs : Bool
  et : Bool
  pr : ByteArray
  ex : List Int
  tr : List Int
  tk : List Int
  pk : List Int
  rn : List Int
  gt : Int
  li : Int
  ho : ByteArray
  sp : ByteArray
  ea : Int
  wd : Int
  ms : List Mrk
/-- Where it lies. -/
structure EA where
  a1 : Option Addr
  c1 : Nat
  g1 : Nat
  a2 : Option Addr
  c2 : Nat
  g2 : Nat
  a3 : Option Addr
  c3 : Nat
  g3 : Nat
  a12 : Option Addr
  c12 : Nat
  g12 : Nat
  a13 : Option Addr
  c13 : Nat
  g13 : Nat
  a14 : Option Addr
  c14 : Nat
  g14 : Nat
  a15 : Option Addr
  c15 : Nat
  g15 : Nat
  a16 : Option Addr
  c16 : Nat
  g16 : Nat
  a23 : Option Addr
  c23 : Nat
  g23 : Nat
  pl : List Plm
/-- It may be read, and all of it lies at b or above. -/
structure HasE (b : Nat) (W : World) (p : EA) (d : ED) : Prop where
  an : Rd W p.g1 p.a1 .i64 d.an
  ban : b ≤ p.g1
  se : Rd W p.g2 p.a2 .u8 d.se
  bse : b ≤ p.g2
  re : Rd W p.g3 p.a3 .u8 d.re
  bre : b ≤ p.g3
  ex : Rd W p.g12 p.a12 .u8 d.ex
  bex : b ≤ p.g12
  tr : Rd W p.g13 p.a13 .u8 d.tr
  btr : b ≤ p.g13
  tk : Rd W p.g14 p.a14 .u8 d.tk
  btk : b ≤ p.g14
  pk : Rd W p.g15 p.a15 .u8 d.pk
  bpk : b ≤ p.g15
  rn : Rd W p.g16 p.a16 .u8 d.rn
  brn : b ≤ p.g16
  ms : RdK W p.g23 p.a23 d.ms p.pl
  bms : b ≤ p.g23
  bps : ∀ i, i < d.ms.length → b ≤ (p.pl.getD i plm0).q
theorem HasE.up {b : Nat} {W W' : World} {p : EA} {d : ED} (h : HasE b W p d) (n : Below W.heap.size W W') : HasE b W' p d := ⟨h.an.up n, h.ban, h.se.up n, h.bse, h.re.up n, h.bre, h.ex.up n, h.bex, h.tr.up n, h.btr, h.tk.up n, h.btk, h.pk.up n, h.bpk, h.rn.up n, h.brn, h.ms.up n, h.bms, h.bps⟩
theorem HasE.mono {b b' : Nat} {W : World} {p : EA} {d : ED} (h : HasE b W p d) (l : b' ≤ b) : HasE b' W p d := ⟨h.an, Nat.le_trans l h.ban, h.se, Nat.le_trans l h.bse, h.re, Nat.le_trans l h.bre, h.ex, Nat.le_trans l h.bex, h.tr, Nat.le_trans l h.btr, h.tk, Nat.le_trans l h.btk, h.pk, Nat.le_trans l h.bpk, h.rn, Nat.le_trans l h.brn, h.ms, Nat.le_trans l h.bms, fun i hi => Nat.le_trans l (h.bps i hi)⟩
theorem HasE.onl {b q : Nat} {W W' : World} {p : EA} {d : ED} (h : HasE b W p d) (O : Only q W W') (hq : q < b) : HasE b W' p d := ⟨h.an.onlK O (by have := h.ban; omega), h.ban, h.se.onlK O (by have := h.bse; omega), h.bse, h.re.onlK O (by have := h.bre; omega), h.bre, h.ex.onlK O (by have := h.bex; omega), h.bex, h.tr.onlK O (by have := h.btr; omega), h.btr, h.tk.onlK O (by have := h.btk; omega), h.btk, h.pk.onlK O (by have := h.bpk; omega), h.bpk, h.rn.onlK O (by have := h.brn; omega), h.brn, h.ms.onl O (by have := h.bms; omega) (fun i hi => by have := h.bps i hi; omega), h.bms, h.bps⟩
/-- No list of it is too long. -/
structure OkE (d : ED) : Prop where
  an : d.an.length ≤ 1048576
  se : d.se.length ≤ 1048576
  re : d.re.length ≤ 1048576
  ex : d.ex.length ≤ 1048576
  tr : d.tr.length ≤ 1048576
  tk : d.tk.length ≤ 1048576
  pk : d.pk.length ≤ 1048576
  rn : d.rn.length ≤ 1048576
  ms : d.ms.length ≤ 1048576
  mz : ∀ i, i < d.ms.length → (d.ms.getD i mrk0).id.length ≤ 1048576
/-- The cells of a report. -/
abbrev erL (p : EA) (d : ED) : List Value := [.int .i64 d.fa, .slice p.a1 d.an.length p.c1, .slice p.a2 d.se.length p.c2, .slice p.a3 d.re.length p.c3, .int .i64 d.er, .int .i64 d.ph, .int .i64 d.al, .int .i64 d.pa, .int .i64 d.no, .bool d.rs, .bool d.et, .string d.pr, .slice p.a12 d.ex.length p.c12, .slice p.a13 d.tr.length p.c13, .slice p.a14 d.tk.length p.c14, .slice p.a15 d.pk.length p.c15, .slice p.a16 d.rn.length p.c16, .int .i64 d.gt, .int .i64 d.li, .string d.ho, .string d.sp, .int .i64 d.ea, .int .i64 d.wd, .slice p.a23 d.ms.length p.c23]
theorem oneEr (p : EA) (d : ED) : (erL p d : List Value).toArray.all (·.oneCell') = true := all_oneCell_toArray fun v hv => by
  simp only [List.mem_cons, List.not_mem_nil, or_false] at hv
  rcases hv with rfl | rfl | rfl | rfl | rfl | rfl | rfl | rfl | rfl | rfl | rfl | rfl | rfl | rfl | rfl | rfl | rfl | rfl | rfl | rfl | rfl | rfl | rfl | rfl
  all_goals rfl
end Go.Proofs.Ytingekgcjnkljaa

/-
  The report of a channel, copied; windows and the reports of ends held against each other (written by gens/kme.py).
-/
namespace Go.Proofs.Ytingekgcjnkljaa
open Go Go.RowKit

/-- The report of a channel as data. -/
structure CD where
  fa : Int
  an : List Int
  cl : ED
  sv : ED
  ts : List Int
  tc : List Int
/-- Where it lies. -/
structure CA where
  a1 : Option Addr
  c1 : Nat
  g1 : Nat
  cl : EA
  sv : EA
  a50 : Option Addr
  c50 : Nat
  g50 : Nat
  a51 : Option Addr
  c51 : Nat
  g51 : Nat
structure HasC (b : Nat) (W : World) (p : CA) (d : CD) : Prop where
  an : Rd W p.g1 p.a1 .i64 d.an
  ban : b ≤ p.g1
  cl : HasE b W p.cl d.cl
  sv : HasE b W p.sv d.sv
  ts : Rd W p.g50 p.a50 .u8 d.ts
  bts : b ≤ p.g50
  tc : Rd W p.g51 p.a51 .u8 d.tc
  btc : b ≤ p.g51
theorem HasC.up {b : Nat} {W W' : World} {p : CA} {d : CD} (h : HasC b W p d) (n : Below W.heap.size W W') : HasC b W' p d := ⟨h.an.up n, h.ban, h.cl.up n, h.sv.up n, h.ts.up n, h.bts, h.tc.up n, h.btc⟩
structure OkC (d : CD) : Prop where
  an : d.an.length ≤ 1048576
  cl : OkE d.cl
  sv : OkE d.sv
  ts : d.ts.length ≤ 1048576
  tc : d.tc.length ≤ 1048576
theorem setL_eq : ∀ (vs cs : List Value) (o : Nat), o + vs.length ≤ cs.length → setL cs o vs = cs.take o ++ vs ++ cs.drop (o + vs.length)
  | [], cs, o, _ => by simp [setL]
  | v :: r, cs, o, h => by
    have h' : o + 1 + r.length ≤ cs.length := by simp only [List.length_cons] at h; omega
    have ho : o < cs.length := by omega
    show setL (cs.set o v) (o + 1) r = _
    rw [setL_eq r (cs.set o v) (o + 1) (by rw [List.length_set]; exact h')]
    rw [List.take_set, List.drop_set_of_lt (by omega)]
    have e : (cs.take (o + 1)).set o v = cs.take o ++ [v] := by
      apply List.ext_getElem?
      intro i
      by_cases hi : i = o
      · subst hi
        rw [List.getElem?_set_self (by rw [List.length_take]; omega), List.getElem?_append_right (by rw [List.length_take]; omega), List.length_take, show i - min i cs.length = 0 by omega]
        rfl
      · rw [List.getElem?_set_ne (by omega)]
        by_cases hl : i < o
        · rw [List.getElem?_append_left (by rw [List.length_take]; omega), List.getElem?_take, List.getElem?_take, if_pos (by omega), if_pos hl]
        · rw [List.getElem?_eq_none (by rw [List.length_take]; omega), List.getElem?_eq_none (by simp only [List.length_append, List.length_take, List.length_cons, List.length_nil]; omega)]
    rw [e]
    simp only [List.length_cons, List.append_assoc, List.cons_append, List.nil_append, show o + 1 + r.length = o + (r.length + 1) by omega]
theorem TMs.puts {w W : World} {tL tM : TypeId} {src zer cs : List Value} (h : TMs w W tL tM src zer cs) (o : Nat) (vs : List Value) (hl : o + vs.length ≤ cs.length) : TMs w (W.setCells (w.heap.size + 1 + 1) o vs) tL tM src zer (cs.take o ++ vs ++ cs.drop (o + vs.length)) := by
  rw [← setL_eq vs cs o hl]
  exact h.sets o vs
/-- The cells of a channel's report. -/
abbrev crL (p : CA) (d : CD) : List Value := [.int .i64 d.fa, .slice p.a1 d.an.length p.c1, .int .i64 d.cl.fa, .slice p.cl.a1 d.cl.an.length p.cl.c1, .slice p.cl.a2 d.cl.se.length p.cl.c2, .slice p.cl.a3 d.cl.re.length p.cl.c3, .int .i64 d.cl.er, .int .i64 d.cl.ph, .int .i64 d.cl.al, .int .i64 d.cl.pa, .int .i64 d.cl.no, .bool d.cl.rs, .bool d.cl.et, .string d.cl.pr, .slice p.cl.a12 d.cl.ex.length p.cl.c12, .slice p.cl.a13 d.cl.tr.length p.cl.c13, .slice p.cl.a14 d.cl.tk.length p.cl.c14, .slice p.cl.a15 d.cl.pk.length p.cl.c15, .slice p.cl.a16 d.cl.rn.length p.cl.c16, .int .i64 d.cl.gt, .int .i64 d.cl.li, .string d.cl.ho, .string d.cl.sp, .int .i64 d.cl.ea, .int .i64 d.cl.wd, .slice p.cl.a23 d.cl.ms.length p.cl.c23, .int .i64 d.sv.fa, .slice p.sv.a1 d.sv.an.length p.sv.c1, .slice p.sv.a2 d.sv.se.length p.sv.c2, .slice p.sv.a3 d.sv.re.length p.sv.c3, .int .i64 d.sv.er, .int .i64 d.sv.ph, .int .i64 d.sv.al, .int .i64 d.sv.pa, .int .i64 d.sv.no, .bool d.sv.rs, .bool d.sv.et, .string d.sv.pr, .slice p.sv.a12 d.sv.ex.length p.sv.c12, .slice p.sv.a13 d.sv.tr.length p.sv.c13, .slice p.sv.a14 d.sv.tk.length p.sv.c14, .slice p.sv.a15 d.sv.pk.length p.sv.c15, .slice p.sv.a16 d.sv.rn.length p.sv.c16, .int .i64 d.sv.gt, .int .i64 d.sv.li, .string d.sv.ho, .string d.sv.sp, .int .i64 d.sv.ea, .int .i64 d.sv.wd, .slice p.sv.a23 d.sv.ms.length p.sv.c23, .slice p.a50 d.ts.length p.c50, .slice p.a51 d.tc.length p.c51]
theorem oneCr (p : CA) (d : CD) : (crL p d : List Value).toArray.all (·.oneCell') = true := all_oneCell_toArray fun v hv => by
  simp only [List.mem_cons, List.not_mem_nil, or_false] at hv
  rcases hv with rfl | rfl | rfl | rfl | rfl | rfl | rfl | rfl | rfl | rfl | rfl | rfl | rfl | rfl | rfl | rfl | rfl | rfl | rfl | rfl | rfl | rfl | rfl | rfl | rfl | rfl | rfl | rfl | rfl | rfl | rfl | rfl | rfl | rfl | rfl | rfl | rfl | rfl | rfl | rfl | rfl | rfl | rfl | rfl | rfl | rfl | rfl | rfl | rfl | rfl | rfl | rfl
  all_goals rfl
end Go.Proofs.Ytingekgcjnkljaa

/-
  Windows that are asked: a window that the law made, as a row that it owns (written by gens/wat.py).
-/
namespace Go.Proofs.Ytingekgcjnkljaa
open Go Go.RowKit

set_option maxRecDepth 100000 in
def ofM (ms : List Mrk) : List (Int × List Int) := ms.map fun m => (m.un, m.id)
set_option maxRecDepth 100000 in
theorem ofM_len (ms : List Mrk) : (ofM ms).length = ms.length := by simp [ofM]
set_option maxRecDepth 100000 in
theorem ofM_get {ms : List Mrk} {i : Nat} (h : i < ms.length) : (ofM ms).getD i (0, []) = ((ms.getD i mrk0).un, (ms.getD i mrk0).id) := by
  unfold ofM
  rw [List.getD_eq_getElem?_getD, List.getElem?_map, List.getElem?_eq_getElem h, List.getD_eq_getElem?_getD, List.getElem?_eq_getElem h]
  rfl
set_option maxRecDepth 100000 in
/-- A new row of marks, the first k of them laid, each list in a block behind the one ahead of it. -/
def RowK3 (B : Nat) (wr : World) (g : Nat) (ms : List Mrk) (k : Nat) (vs : List Value) : Prop := vs.length = ms.length * 2 ∧ RwC wr g vs 36 ∧ ∃ Gs : List Nat, Gs.length = k ∧ (∀ j, j < k → (vs[j * 2]? = some (.slice (some ⟨Gs.getD j 0, 0, none⟩) (ms.getD j mrk0).id.length (ms.getD j mrk0).id.length) ∧ vs[j * 2 + 1]? = some (.int .i64 (ms.getD j mrk0).un)) ∧ Blk wr (Gs.getD j 0) .u8 (ms.getD j mrk0).id ∧ B < Gs.getD j 0 ∧ Gs.getD j 0 < wr.heap.size) ∧ ∀ i j, i < j → j < k → Gs.getD i 0 < Gs.getD j 0
set_option maxRecDepth 100000 in
theorem RowK3.nil {B g : Nat} {wr : World} {ms : List Mrk} {vs : List Value} (h1 : vs.length = ms.length * 2) (h2 : RwC wr g vs 36) : RowK3 B wr g ms 0 vs := ⟨h1, h2, [], rfl, fun j hj => absurd hj (by omega), fun i j _ hj => absurd hj (by omega)⟩
set_option maxRecDepth 100000 in
theorem RowK3.step {B g k : Nat} {wr w1 : World} {ms : List Mrk} {vs : List Value} (h : RowK3 B wr g ms k vs) (hk : k < ms.length) (hg : g = B) (n : Below wr.heap.size wr w1) {G : Nat} (hG : wr.heap.size ≤ G) (b : Blk w1 G .u8 (ms.getD k mrk0).id) :
    RowK3 B (w1.setCells g (k * 2) [.slice (some ⟨G, 0, none⟩) (ms.getD k mrk0).id.length (ms.getD k mrk0).id.length, .int .i64 (ms.getD k mrk0).un]) g ms (k + 1) ((vs.set (k * 2) (.slice (some ⟨G, 0, none⟩) (ms.getD k mrk0).id.length (ms.getD k mrk0).id.length)).set (k * 2 + 1) (.int .i64 (ms.getD k mrk0).un)) := by
  obtain ⟨h1, h2, Gs, hl, h3, h4⟩ := h
  have hgl := h2.lt
  have O := only_setG w1 g [.slice (some ⟨G, 0, none⟩) (ms.getD k mrk0).id.length (ms.getD k mrk0).id.length, .int .i64 (ms.getD k mrk0).un] (k * 2)
  have L1 : ∀ j, j < k → (Gs ++ [G]).getD j 0 = Gs.getD j 0 := fun j hj => by
    rw [List.getD_eq_getElem?_getD, List.getElem?_append_left (by omega), List.getD_eq_getElem?_getD]
  have L2 : (Gs ++ [G]).getD k 0 = G := by rw [← hl]; simp
  have sz := n.size
  have hGl : G < w1.heap.size := b.lt
  refine ⟨by simpa using h1, ((h2.up n).set (k * 2) _).set (k * 2 + 1) _, Gs ++ [G], by simp [hl], fun j hj => ?_, fun i j hij hj => ?_⟩
  · by_cases e : j = k
    · subst e
      rw [L2, O.size]
      refine ⟨⟨?_, ?_⟩, b.of_block (O.block G (by omega)), by omega, hGl⟩
      · rw [List.getElem?_set_ne (by omega), List.getElem?_set_self (by omega)]
      · rw [List.getElem?_set_self (by rw [List.length_set]; omega)]
    · obtain ⟨⟨e1, e2⟩, b1, l1, l2⟩ := h3 j (by omega)
      rw [L1 j (by omega), O.size]
      refine ⟨⟨?_, ?_⟩, (b1.up n).of_block (O.block _ (by omega)), l1, by omega⟩
      · rw [List.getElem?_set_ne (by omega), List.getElem?_set_ne (by omega)]; exact e1
      · rw [List.getElem?_set_ne (by omega), List.getElem?_set_ne (by omega)]; exact e2
  · rw [L1 i (by omega)]
    by_cases e : j = k
    · subst e
      rw [L2]
      have := (h3 i hij).2.2.2
      omega
    · rw [L1 j (by omega)]
      exact h4 i j hij (by omega)
set_option maxRecDepth 100000 in
theorem RowK3.row {g : Nat} {wr : World} {ms : List Mrk} {vs : List Value} (h : RowK3 g wr g ms ms.length vs) (hn : ms.length ≤ 1048576) : ∃ bs, IRow wr g (.slice (some ⟨g, 0, none⟩) ms.length ms.length) (ofM ms) bs := by
  obtain ⟨h1, h2, Gs, hl, h3, h4⟩ := h
  obtain ⟨bs, hbs⟩ : ∃ bs : List Plc, bs = (List.range ms.length).map fun j => (⟨some ⟨Gs.getD j 0, 0, none⟩, (ms.getD j mrk0).id.length, Gs.getD j 0⟩ : Plc) := ⟨_, rfl⟩
  have bl : bs.length = ms.length := by rw [hbs]; simp
  have e : ∀ i, i < ms.length → bs.getD i plc0 = ⟨some ⟨Gs.getD i 0, 0, none⟩, (ms.getD i mrk0).id.length, Gs.getD i 0⟩ := fun i hi => by
    rw [hbs, List.getD_eq_getElem?_getD]
    simp [hi]
  have ev : vs = itCs (ofM ms) bs := by
    refine List.ext_getElem? fun q => ?_
    have il := itCs_len (ofM ms) bs (by rw [bl, ofM_len])
    rw [ofM_len] at il
    by_cases hq : q < ms.length * 2
    · have hj : q / 2 < ms.length := by omega
      rcases Nat.mod_two_eq_zero_or_one q with hm | hm
      · have eq : q = 2 * (q / 2) := by omega
        rw [eq, itCs_at0 (ofM ms) bs (q / 2) (by rw [bl, ofM_len]) (by rw [ofM_len]; exact hj), e _ hj, ofM_get hj, Nat.mul_comm 2 (q / 2)]
        exact (h3 _ hj).1.1
      · have eq : q = 2 * (q / 2) + 1 := by omega
        rw [eq, itCs_at1 (ofM ms) bs (q / 2) (by rw [bl, ofM_len]) (by rw [ofM_len]; exact hj), ofM_get hj, Nat.mul_comm 2 (q / 2)]
        exact (h3 _ hj).1.2
    · rw [List.getElem?_eq_none (by omega), List.getElem?_eq_none (by omega)]
  refine ⟨bs, ⟨⟨?_, ?_⟩, by rw [bl, ofM_len], fun i hi => ?_, fun i hi _ => ?_, fun i j hi hj hne _ _ => ?_⟩⟩
  · rw [itCs_len _ _ (by rw [bl, ofM_len])]
  · refine .inr ⟨g, ms.length, vs.toArray, by rw [ofM_len], Nat.le_refl _, h2, by rw [ofM_len]; exact Nat.le_refl _, by unfold maxLen; omega, by simpa using h1, ?_⟩
    rw [ofM_len, ← ev]
    show vs.take _ = vs
    exact List.take_of_length_le (by omega)
  · rw [ofM_len] at hi
    rw [ofM_get hi, e i hi]
    exact ⟨(h3 i hi).2.1.own0, (fun h => by cases h), Nat.le_refl _⟩
  · rw [ofM_len] at hi
    rw [e i hi]
    have := (h3 i hi).2.2.1
    refine ⟨by simp only; omega, fun h => ?_⟩
    have : g = Gs.getD i 0 := by simpa [Value.ownBlock] using h
    omega
  · rw [ofM_len] at hi hj
    rw [e i hi, e j hj]
    simp only
    rcases Nat.lt_or_gt_of_ne hne with h | h
    · have := h4 i j h hj
      omega
    · have := h4 j i h hi
      omega
end Go.Proofs.Ytingekgcjnkljaa

/-
  Windows: the ends of marks looked through.
-/
namespace Go.Proofs.Ytingekgcjnkljaa
open Go Go.RowKit

def utO (u : Int) : Bool := decide (u < 0) || decide (253402473599 < u)
def utA (ms : List Mrk) : Bool := ms.any fun m => utO m.un
theorem utA_yes {ms : List Mrk} {k : Nat} (hk : k < ms.length) (h : utO (ms.getD k mrk0).un = true) : utA ms = true := by
  unfold utA
  rw [List.any_eq_true]
  refine ⟨ms.getD k mrk0, ?_, h⟩
  rw [List.getD_eq_getElem?_getD, List.getElem?_eq_getElem hk]
  exact List.getElem_mem hk
theorem utA_no {ms : List Mrk} (h : ∀ j, j < ms.length → utO (ms.getD j mrk0).un = false) : utA ms = false := by
  unfold utA
  rw [List.any_eq_false]
  intro b hb
  obtain ⟨i, hi, e⟩ := List.getElem_of_mem hb
  have := h i hi
  rw [List.getD_eq_getElem?_getD, List.getElem?_eq_getElem hi] at this
  simpa [← e] using this
def wdO (n : Int) : Bool := decide (0 ≤ n) && decide (n ≤ 86400)
theorem isWidth_any (w : World) (n : Int) : Calls Try.prog 28 #[.int .i64 n] w fun e w' => e = .returned (.bool (wdO n)) ∧ w' = w := by
  by_cases h : 0 ≤ n
  · have u : decide (0 ≤ n) = true := decide_eq_true h
    unfold wdO
    rw [u]
    go_enter Try.func28, Try.ntmps28
    go_wp2
    go_ret
    exact ⟨by simp, rfl⟩
  · have u : decide (0 ≤ n) = false := decide_eq_false h
    unfold wdO
    rw [u]
    go_enter Try.func28, Try.ntmps28
    go_wp2
    go_ret
    exact ⟨by simp, rfl⟩
theorem hasWrong_any (w : World) (a : Option Addr) (n c : Nat) (un : Int) : Calls Try.prog 30 #[.agg #[.slice a n c, .int .i64 un]] w fun e w' => e = .returned (.bool (utO un)) ∧ Below w.heap.size w w' := by
  have n1 : Hid (Below w.heap.size w (w.alloc (.cells #[.slice a n c, .int .i64 un] 36))) := (Below.refl _ _).alloc (Nat.le_refl _) _
  by_cases h : un < 0
  · have u : decide (un < 0) = true := decide_eq_true h
    unfold utO
    rw [u]
    go_enter Try.func30, Try.ntmps30
    go_wp2
    go_ret
    exact ⟨by simp, n1.out⟩
  · have u : decide (un < 0) = false := decide_eq_false h
    unfold utO
    rw [u]
    go_enter Try.func30, Try.ntmps30
    go_wp2
    go_ret
    exact ⟨by simp, n1.out⟩
set_option maxHeartbeats 1000000 in
theorem untilIndex_any (w : World) (g : Nat) (a : Option Addr) (c : Nat) (ms : List Mrk) (ps : List Plm) (hr : RdK w g a ms ps) (hn : ms.length ≤ 1048576) :
    Calls Try.prog 36 #[.slice a ms.length c, .func (Fn.func 30) #[] #[]] w fun e w' => ∃ r : Int, e = .returned (.int .i64 r) ∧ decide (0 ≤ r) = utA ms ∧ Below w.heap.size w w' := by
  go_enter Try.func36, Try.ntmps36
  go_wp2
  go_loopw [8] (fun i wr => ∃ (k : Nat), k ≤ ms.length ∧ i = .int .i64 k ∧ Below w.heap.size w wr ∧ ∀ j, j < k → utO (ms.getD j mrk0).un = false) (fun i _ => ms.length - (intOf i).toNat)
  case atStart => exact ⟨0, Nat.zero_le _, rfl, Below.refl _ _, fun j hj => absurd hj (by omega)⟩
  case round =>
    obtain ⟨k, hk, rfl, N, hall⟩ := hrel
    by_cases hlt : k < ms.length
    · obtain ⟨off, rfl, hc⟩ := (hr.up N).r (by omega)
      have t0 : (k : Int) < (ms.length : Int) := by omega
      have c1 := (hc k hlt).1
      have c2 := (hc k hlt).2
      have CO := hide (hasWrong_any wr (ps.getD k plm0).a (ms.getD k mrk0).id.length (ps.getD k plm0).c (ms.getD k mrk0).un)
      have YES := hide (fun h => utA_yes hlt h)
      have HALL := hide hall
      have HN := hide N
      clear hc hall N
      generalize (ps.getD k plm0).a = pa at *
      generalize (ps.getD k plm0).c = pc at *
      generalize (ms.getD k mrk0).id.length = nn at *
      generalize hx : (ms.getD k mrk0).un = x at *
      have HX := hide hx
      clear hx
      generalize hv : utO x = v at *
      have HV := hide hv
      clear hv
      go_wp2_with fail
      refine CO.out.mono ?_
      rintro e w1 ⟨rfl, n1⟩
      have N1 := hide (nxt HN.out n1)
      clear CO n1 HN
      cases v with
      | true =>
        have Y := hide (YES.out (by first | rfl | exact HV.out))
        clear YES HALL
        go_wp2
        go_ret
        exact ⟨_, rfl, by rw [Y.out]; simp, N1.out⟩
      | false =>
        have NXT : Hid (∀ j, j < k + 1 → utO (ms.getD j mrk0).un = false) := fun j hj => by
          by_cases h : j = k
          · subst h
            rw [HX.out]
            exact HV.out
          · exact HALL.out j (by omega)
        clear YES HALL
        go_wp2
        go_roundw
        case rel => exact ⟨k + 1, by omega, by go_num, N1.out, NXT.out⟩
        case measure => simp [intOf]; omega
    · obtain rfl : k = ms.length := by omega
      have NO := hide (utA_no hall)
      have HN := hide N
      clear hall hr N
      go_wp2
      go_ret
      exact ⟨-1, rfl, by rw [NO.out]; rfl, HN.out⟩
theorem untilContains_any (w : World) (g : Nat) (a : Option Addr) (c : Nat) (ms : List Mrk) (ps : List Plm) (hr : RdK w g a ms ps) (hn : ms.length ≤ 1048576) :
    Calls Try.prog 29 #[.slice a ms.length c, .func (Fn.func 30) #[] #[]] w fun e w' => e = .returned (.bool (utA ms)) ∧ Below w.heap.size w w' := by
  have IX := hide (untilIndex_any w g a c ms ps hr hn)
  clear hr
  generalize utA ms = v at *
  go_enter Try.func29, Try.ntmps29
  go_wp2_with fail
  refine IX.out.mono ?_
  rintro e w1 ⟨r, rfl, hr, n1⟩
  have HR := hide hr
  have N1 := hide n1
  clear hr n1 IX
  go_wp2
  go_ret
  exact ⟨by rw [← HR.out]; rfl, N1.out⟩
end Go.Proofs.Ytingekgcjnkljaa
