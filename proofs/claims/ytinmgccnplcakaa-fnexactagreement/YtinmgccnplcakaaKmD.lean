
/-
  Windows and the report of an end, copied (written by gens/kmd.py).
-/
import Derived.Test.YtinmgccnplcakaaKmC
namespace Go.Proofs.Ytinmgccnplcakaa
open Go Go.RowKit

theorem CpS.mono {b b' : Nat} {W : World} {p : Nat} {k : IntKind} {xs : List Int} (h : CpS b W p k xs) (l : b' ≤ b) : CpS b' W p k xs := ⟨h.rd, Nat.le_trans l h.lo⟩
theorem CpK.mono {b b' : Nat} {W : World} {p : Nat} {ms : List Mrk} {ps : List Plm} (h : CpK b W p ms ps) (l : b' ≤ b) : CpK b' W p ms ps := ⟨h.rd, Nat.le_trans l h.lo, fun i hi => Nat.le_trans l (h.los i hi)⟩
theorem cpByteS (w : World) (g : Nat) (a : Option Addr) (c : Nat) (xs : List Int) (hr : Rd w g a .u8 xs) (hn : xs.length ≤ 1048576) :
    Calls Try.prog 15 #[.slice a xs.length c] w fun e w' => ∃ p, e = .returned (.slice (some ⟨p, 0, none⟩) xs.length xs.length) ∧ CpS w.heap.size w' p .u8 xs ∧ Below w.heap.size w w' :=
  (toByteS_any w g a c xs hr hn).mono (by rintro e w' ⟨rfl, B, n⟩; exact ⟨_, rfl, CpS.of B (Nat.le_refl _), n⟩)
theorem cpIntS (w : World) (g : Nat) (a : Option Addr) (c : Nat) (xs : List Int) (hr : Rd w g a .i64 xs) (hn : xs.length ≤ 1048576) :
    Calls Try.prog 13 #[.slice a xs.length c] w fun e w' => ∃ p, e = .returned (.slice (some ⟨p, 0, none⟩) xs.length xs.length) ∧ CpS w.heap.size w' p .i64 xs ∧ Below w.heap.size w w' :=
  (toIntS_any w g a c xs hr hn).mono (by rintro e w' ⟨rfl, B, n⟩; exact ⟨_, rfl, CpS.of B (Nat.le_refl _), n⟩)
theorem cpMarkS (w : World) (g : Nat) (a : Option Addr) (c : Nat) (ms : List Mrk) (ps : List Plm) (hr : RdK w g a ms ps) (hn : ms.length ≤ 1048576) (hz : ∀ i, i < ms.length → (ms.getD i mrk0).id.length ≤ 1048576) :
    Calls Try.prog 28 #[.slice a ms.length c] w fun e w' => ∃ p qs, e = .returned (.slice (some ⟨p, 0, none⟩) ms.length ms.length) ∧ CpK w.heap.size w' p ms qs ∧ Below w.heap.size w w' :=
  (toMarkS_any w g a c ms ps hr hn hz).mono (by rintro e w' ⟨⟨rfl, qs, R, l⟩, n⟩; exact ⟨_, qs, rfl, ⟨R, Nat.le_refl _, fun i hi => Nat.le_of_lt (l i hi)⟩, n⟩)
theorem cpSaved (w : World) (md li : Int) (ho pr : ByteArray) (ea : Int) (g : Nat) (a : Option Addr) (c : Nat) (xs : List Int) (g' : Nat) (a' : Option Addr) (c' : Nat) (ys : List Int) (g'' : Nat) (a'' : Option Addr) (c'' : Nat) (zs : List Int) (hr : Rd w g a .u8 xs) (hr' : Rd w g' a' .u8 ys) (hr'' : Rd w g'' a'' .u8 zs) (hn : xs.length ≤ 1048576) (hn' : ys.length ≤ 1048576) (hn'' : zs.length ≤ 1048576) :
    Calls Try.prog 22 #[.agg #[.slice a xs.length c, .slice a' ys.length c', .slice a'' zs.length c'', .int .i64 md, .int .i64 li, .string ho, .string pr, .int .i64 ea]] w fun e w' => ∃ p p' p'', e = .returned (.agg #[.slice (some ⟨p, 0, none⟩) xs.length xs.length, .slice (some ⟨p', 0, none⟩) ys.length ys.length, .slice (some ⟨p'', 0, none⟩) zs.length zs.length, .int .i64 md, .int .i64 li, .string ho, .string pr, .int .i64 ea]) ∧ CpS w.heap.size w' p .u8 xs ∧ CpS w.heap.size w' p' .u8 ys ∧ CpS w.heap.size w' p'' .u8 zs ∧ Below w.heap.size w w' :=
  (toSaved_any w md li ho pr ea g a c xs g' a' c' ys g'' a'' c'' zs hr hr' hr'' hn hn' hn'').mono (by rintro e w' ⟨p, p', p'', rfl, B, B', B'', l, l', l'', n⟩; exact ⟨p, p', p'', rfl, CpS.of B l, CpS.of B' (by omega), CpS.of B'' (by omega), n⟩)
set_option maxRecDepth 100000 in
set_option maxHeartbeats 16000000 in
theorem toWindow_any (w : World) (wd : Int) (g : Nat) (a : Option Addr) (c : Nat) (ms : List Mrk) (ps : List Plm) (hr : RdK w g a ms ps) (hn : ms.length ≤ 1048576) (hz : ∀ i, i < ms.length → (ms.getD i mrk0).id.length ≤ 1048576) :
    Calls Try.prog 23 #[.agg #[.int .i64 wd, .slice a ms.length c]] w fun e w' => ∃ p qs, e = .returned (.agg #[.int .i64 wd, .slice (some ⟨p, 0, none⟩) ms.length ms.length]) ∧ CpK w.heap.size w' p ms qs ∧ Below w.heap.size w w' := by
  have T0 := TMs.new w 28 38 [.int .i64 wd, .slice a ms.length c] [.int .i64 0, .slice none 0 0]
  obtain ⟨d1, hd1, hrow1⟩ := rowWd
  go_enter Try.func23, Try.ntmps23
  go_upto_region 2 with fail
  have T0 : TMs w (((w.alloc (.cells #[.int .i64 wd, .slice a ms.length c] 28)).alloc (.cells #[.int .i64 0, .slice none 0 0] 38)).alloc (.cells #[.int .i64 0, .slice none 0 0] 38)) 28 38 [.int .i64 wd, .slice a ms.length c] [.int .i64 0, .slice none 0 0] [.int .i64 0, .slice none 0 0] := T0
  generalize ((w.alloc (.cells #[.int .i64 wd, .slice a ms.length c] 28)).alloc (.cells #[.int .i64 0, .slice none 0 0] 38)).alloc (.cells #[.int .i64 0, .slice none 0 0] 38) = X0 at *
  have q0 : X0.cell? ⟨w.heap.size, 0, none⟩ = some (.int .i64 wd) := T0.S.cell 0
  have q1 : X0.cell? ⟨w.heap.size + 1 + 1, 0, none⟩ = some (.int .i64 0) := T0.T.cell 0
  have q2 := T0.T.free 0
  have T6 : TMs w (X0.setCell ⟨w.heap.size + 1 + 1, 0, none⟩ (.int .i64 wd)) 28 38 [.int .i64 wd, .slice a ms.length c] [.int .i64 0, .slice none 0 0] [.int .i64 wd, .slice none 0 0] := T0.set 0 _
  go_upto_region 3 with fail
  clear q0 q1 q2 T0
  generalize X0.setCell ⟨w.heap.size + 1 + 1, 0, none⟩ (.int .i64 wd) = X1 at *
  have T0 := T6
  clear T6
  have qS : X1.cell? ⟨w.heap.size, 1, none⟩ = some (.slice a ms.length c) := T0.S.cell 1
  have TB := hide (cpMarkS X1 g a c ms ps (hr.up T0.N) hn hz)
  go_wp2_with fail
  refine TB.out.mono ?_
  rintro e V1 ⟨p, qs, rfl, K, m⟩
  have lt := T0.T.lt
  have T2 := T0.up m
  replace K := K.mono (show (w.heap.size + 1 + 1 + 1) ≤ _ by omega)
  clear TB qS T0 m
  have qT : V1.cell? ⟨w.heap.size + 1 + 1, 1, none⟩ = some (.slice none 0 0) := T2.T.cell 1
  have qF := T2.T.free 1
  have T3 : TMs w (V1.setCell ⟨w.heap.size + 1 + 1, 1, none⟩ (.slice (some ⟨p, 0, none⟩) ms.length ms.length)) 28 38 [.int .i64 wd, .slice a ms.length c] [.int .i64 0, .slice none 0 0] [.int .i64 wd, .slice (some ⟨p, 0, none⟩) ms.length ms.length] := T2.set 1 _
  replace K := K.onl (Only.setCell V1 (w.heap.size + 1 + 1) 1 (.slice (some ⟨p, 0, none⟩) ms.length ms.length)) (by omega)
  go_upto_region 4 with fail
  clear T2 qT qF lt
  generalize V1.setCell ⟨w.heap.size + 1 + 1, 1, none⟩ (.slice (some ⟨p, 0, none⟩) ms.length ms.length) = X2 at *
  have T0 := T3
  clear T3
  have RG := T0.T.rangeG
  have TH := T0.U.thereG
  have RR := World.rangeAt_setCells_same X2 (w.heap.size + 1) 0 [.int .i64 wd, .slice (some ⟨p, 0, none⟩) ms.length ms.length] TH
  have OQ := only_setG X2 (w.heap.size + 1) [.int .i64 wd, .slice (some ⟨p, 0, none⟩) ms.length ms.length] 0
  have N8 : Hid (Below w.heap.size w (X2.setCells (w.heap.size + 1) 0 [.int .i64 wd, .slice (some ⟨p, 0, none⟩) ms.length ms.length])) := T0.N.trans (OQ.below (by omega))
  have DK := hide ((K.onl OQ (by omega)).mono (show w.heap.size ≤ _ by omega))
  have ON := oneWd wd (some ⟨p, 0, none⟩) ms.length ms.length
  clear OQ T0 K
  go_wp2_with (first
    | (refine wpList_load_mid rfl 38 (.tmp 3) rfl (w.heap.size + 1 + 1) 0 rfl [.int .i64 wd, .slice (some ⟨p, 0, none⟩) ms.length ms.length] d1 RG hd1 hrow1 iWd ?_)
    | (refine wpList_store_mid rfl 38 (.tmp 2) (.tmp 11) rfl (w.heap.size + 1) 0 #[.int .i64 wd, .slice (some ⟨p, 0, none⟩) ms.length ms.length] rfl rfl ?hth ?hin ?hon ?_))
  case hth => exact TH
  case hin => exact iWd
  case hon => exact ON
  exact bodyPost_ret (v := .agg #[.int .i64 wd, .slice (some ⟨p, 0, none⟩) ms.length ms.length]) (results_cellG Try.results23 _ _ (w.heap.size + 1) _ d1 rfl RR hd1 hrow1 iWd) rfl ⟨p, qs, rfl, DK.out, N8.out⟩
/-- The report of an end as data. -/
structure ED where
  fa : Int
  an : List Int
  se : List Int
  re : List Int
  er : Int
  ph : Int
  al : Int
  pa : Int
  no : Int
  rs : Bool
  et : Bool
  pr : ByteArray
  ex : List Int
  tr : List Int
  tk : List Int
  pk : List Int
  rn : List Int
  gt : Int
  li : Int
  ho : ByteArray
  sp : ByteArray
  ea : Int
  wd : Int
  ms : List Mrk
/-- Where it lies. -/
structure EA where
  a1 : Option Addr
  c1 : Nat
  g1 : Nat
  a2 : Option Addr
  c2 : Nat
  g2 : Nat
  a3 : Option Addr
  c3 : Nat
  g3 : Nat
  a12 : Option Addr
  c12 : Nat
  g12 : Nat
  a13 : Option Addr
  c13 : Nat
  g13 : Nat
  a14 : Option Addr
  c14 : Nat
  g14 : Nat
  a15 : Option Addr
  c15 : Nat
  g15 : Nat
  a16 : Option Addr
  c16 : Nat
  g16 : Nat
  a23 : Option Addr
  c23 : Nat
  g23 : Nat
  pl : List Plm
/-- It may be read, and all of it lies at b or above. -/
structure HasE (b : Nat) (W : World) (p : EA) (d : ED) : Prop where
  an : Rd W p.g1 p.a1 .i64 d.an
  ban : b ≤ p.g1
  se : Rd W p.g2 p.a2 .u8 d.se
  bse : b ≤ p.g2
  re : Rd W p.g3 p.a3 .u8 d.re
  bre : b ≤ p.g3
  ex : Rd W p.g12 p.a12 .u8 d.ex
  bex : b ≤ p.g12
  tr : Rd W p.g13 p.a13 .u8 d.tr
  btr : b ≤ p.g13
  tk : Rd W p.g14 p.a14 .u8 d.tk
  btk : b ≤ p.g14
  pk : Rd W p.g15 p.a15 .u8 d.pk
  bpk : b ≤ p.g15
  rn : Rd W p.g16 p.a16 .u8 d.rn
  brn : b ≤ p.g16
  ms : RdK W p.g23 p.a23 d.ms p.pl
  bms : b ≤ p.g23
  bps : ∀ i, i < d.ms.length → b ≤ (p.pl.getD i plm0).q
theorem HasE.up {b : Nat} {W W' : World} {p : EA} {d : ED} (h : HasE b W p d) (n : Below W.heap.size W W') : HasE b W' p d := ⟨h.an.up n, h.ban, h.se.up n, h.bse, h.re.up n, h.bre, h.ex.up n, h.bex, h.tr.up n, h.btr, h.tk.up n, h.btk, h.pk.up n, h.bpk, h.rn.up n, h.brn, h.ms.up n, h.bms, h.bps⟩
theorem HasE.mono {b b' : Nat} {W : World} {p : EA} {d : ED} (h : HasE b W p d) (l : b' ≤ b) : HasE b' W p d := ⟨h.an, Nat.le_trans l h.ban, h.se, Nat.le_trans l h.bse, h.re, Nat.le_trans l h.bre, h.ex, Nat.le_trans l h.bex, h.tr, Nat.le_trans l h.btr, h.tk, Nat.le_trans l h.btk, h.pk, Nat.le_trans l h.bpk, h.rn, Nat.le_trans l h.brn, h.ms, Nat.le_trans l h.bms, fun i hi => Nat.le_trans l (h.bps i hi)⟩
theorem HasE.onl {b q : Nat} {W W' : World} {p : EA} {d : ED} (h : HasE b W p d) (O : Only q W W') (hq : q < b) : HasE b W' p d := ⟨h.an.onlK O (by have := h.ban; omega), h.ban, h.se.onlK O (by have := h.bse; omega), h.bse, h.re.onlK O (by have := h.bre; omega), h.bre, h.ex.onlK O (by have := h.bex; omega), h.bex, h.tr.onlK O (by have := h.btr; omega), h.btr, h.tk.onlK O (by have := h.btk; omega), h.btk, h.pk.onlK O (by have := h.bpk; omega), h.bpk, h.rn.onlK O (by have := h.brn; omega), h.brn, h.ms.onl O (by have := h.bms; omega) (fun i hi => by have := h.bps i hi; omega), h.bms, h.bps⟩
/-- No list of it is too long. -/
structure OkE (d : ED) : Prop where
  an : d.an.length ≤ 1048576
  se : d.se.length ≤ 1048576
  re : d.re.length ≤ 1048576
  ex : d.ex.length ≤ 1048576
  tr : d.tr.length ≤ 1048576
  tk : d.tk.length ≤ 1048576
  pk : d.pk.length ≤ 1048576
  rn : d.rn.length ≤ 1048576
  ms : d.ms.length ≤ 1048576
  mz : ∀ i, i < d.ms.length → (d.ms.getD i mrk0).id.length ≤ 1048576
theorem iLSv : (Try.prog.info? 25).map (·.size) = some 8 := by kernel_rfl
theorem rowLSv : ∃ d, Try.prog.underlying 25 = some d ∧ d.isRow = true := ⟨_, Try.underlying25, rfl⟩
theorem iLWd : (Try.prog.info? 28).map (·.size) = some 2 := by kernel_rfl
theorem rowLWd : ∃ d, Try.prog.underlying 28 = some d ∧ d.isRow = true := ⟨_, Try.underlying28, rfl⟩
theorem iEr : (Try.prog.info? 40).map (·.size) = some 24 := by kernel_rfl
theorem rowEr : ∃ d, Try.prog.underlying 40 = some d ∧ d.isRow = true := ⟨_, Try.underlying40, rfl⟩
theorem iLEr : (Try.prog.info? 30).map (·.size) = some 24 := by kernel_rfl
theorem rowLEr : ∃ d, Try.prog.underlying 30 = some d ∧ d.isRow = true := ⟨_, Try.underlying30, rfl⟩
/-- The cells of a report. -/
abbrev erL (p : EA) (d : ED) : List Value := [.int .i64 d.fa, .slice p.a1 d.an.length p.c1, .slice p.a2 d.se.length p.c2, .slice p.a3 d.re.length p.c3, .int .i64 d.er, .int .i64 d.ph, .int .i64 d.al, .int .i64 d.pa, .int .i64 d.no, .bool d.rs, .bool d.et, .string d.pr, .slice p.a12 d.ex.length p.c12, .slice p.a13 d.tr.length p.c13, .slice p.a14 d.tk.length p.c14, .slice p.a15 d.pk.length p.c15, .slice p.a16 d.rn.length p.c16, .int .i64 d.gt, .int .i64 d.li, .string d.ho, .string d.sp, .int .i64 d.ea, .int .i64 d.wd, .slice p.a23 d.ms.length p.c23]
theorem oneEr (p : EA) (d : ED) : (erL p d : List Value).toArray.all (·.oneCell') = true := all_oneCell_toArray fun v hv => by
  simp only [List.mem_cons, List.not_mem_nil, or_false] at hv
  rcases hv with rfl | rfl | rfl | rfl | rfl | rfl | rfl | rfl | rfl | rfl | rfl | rfl | rfl | rfl | rfl | rfl | rfl | rfl | rfl | rfl | rfl | rfl | rfl | rfl
  all_goals rfl
set_option maxRecDepth 100000 in
set_option maxHeartbeats 16000000 in
theorem toEndReport_any (w : World) (p : EA) (d : ED) (h : HasE 0 w p d) (k : OkE d) :
    Calls Try.prog 14 #[.agg #[.int .i64 d.fa, .slice p.a1 d.an.length p.c1, .slice p.a2 d.se.length p.c2, .slice p.a3 d.re.length p.c3, .int .i64 d.er, .int .i64 d.ph, .int .i64 d.al, .int .i64 d.pa, .int .i64 d.no, .bool d.rs, .bool d.et, .string d.pr, .slice p.a12 d.ex.length p.c12, .slice p.a13 d.tr.length p.c13, .slice p.a14 d.tk.length p.c14, .slice p.a15 d.pk.length p.c15, .slice p.a16 d.rn.length p.c16, .int .i64 d.gt, .int .i64 d.li, .string d.ho, .string d.sp, .int .i64 d.ea, .int .i64 d.wd, .slice p.a23 d.ms.length p.c23]] w fun e w' => ∃ p', e = .returned (.agg (erL p' d).toArray) ∧ HasE w.heap.size w' p' d ∧ Below w.heap.size w w' := by
  have T0 := TMs.new w 30 40 [.int .i64 d.fa, .slice p.a1 d.an.length p.c1, .slice p.a2 d.se.length p.c2, .slice p.a3 d.re.length p.c3, .int .i64 d.er, .int .i64 d.ph, .int .i64 d.al, .int .i64 d.pa, .int .i64 d.no, .bool d.rs, .bool d.et, .string d.pr, .slice p.a12 d.ex.length p.c12, .slice p.a13 d.tr.length p.c13, .slice p.a14 d.tk.length p.c14, .slice p.a15 d.pk.length p.c15, .slice p.a16 d.rn.length p.c16, .int .i64 d.gt, .int .i64 d.li, .string d.ho, .string d.sp, .int .i64 d.ea, .int .i64 d.wd, .slice p.a23 d.ms.length p.c23] [.int .i64 0, .slice none 0 0, .slice none 0 0, .slice none 0 0, .int .i64 0, .int .i64 0, .int .i64 0, .int .i64 0, .int .i64 0, .bool false, .bool false, .string ⟨#[]⟩, .slice none 0 0, .slice none 0 0, .slice none 0 0, .slice none 0 0, .slice none 0 0, .int .i64 0, .int .i64 0, .string ⟨#[]⟩, .string ⟨#[]⟩, .int .i64 0, .int .i64 0, .slice none 0 0]
  obtain ⟨d1, hd1, hrow1⟩ := rowEr
  go_enter Try.func14, Try.ntmps14
  go_upto_region 2 with fail
  have T0 : TMs w (((w.alloc (.cells #[.int .i64 d.fa, .slice p.a1 d.an.length p.c1, .slice p.a2 d.se.length p.c2, .slice p.a3 d.re.length p.c3, .int .i64 d.er, .int .i64 d.ph, .int .i64 d.al, .int .i64 d.pa, .int .i64 d.no, .bool d.rs, .bool d.et, .string d.pr, .slice p.a12 d.ex.length p.c12, .slice p.a13 d.tr.length p.c13, .slice p.a14 d.tk.length p.c14, .slice p.a15 d.pk.length p.c15, .slice p.a16 d.rn.length p.c16, .int .i64 d.gt, .int .i64 d.li, .string d.ho, .string d.sp, .int .i64 d.ea, .int .i64 d.wd, .slice p.a23 d.ms.length p.c23] 30)).alloc (.cells #[.int .i64 0, .slice none 0 0, .slice none 0 0, .slice none 0 0, .int .i64 0, .int .i64 0, .int .i64 0, .int .i64 0, .int .i64 0, .bool false, .bool false, .string ⟨#[]⟩, .slice none 0 0, .slice none 0 0, .slice none 0 0, .slice none 0 0, .slice none 0 0, .int .i64 0, .int .i64 0, .string ⟨#[]⟩, .string ⟨#[]⟩, .int .i64 0, .int .i64 0, .slice none 0 0] 40)).alloc (.cells #[.int .i64 0, .slice none 0 0, .slice none 0 0, .slice none 0 0, .int .i64 0, .int .i64 0, .int .i64 0, .int .i64 0, .int .i64 0, .bool false, .bool false, .string ⟨#[]⟩, .slice none 0 0, .slice none 0 0, .slice none 0 0, .slice none 0 0, .slice none 0 0, .int .i64 0, .int .i64 0, .string ⟨#[]⟩, .string ⟨#[]⟩, .int .i64 0, .int .i64 0, .slice none 0 0] 40)) 30 40 [.int .i64 d.fa, .slice p.a1 d.an.length p.c1, .slice p.a2 d.se.length p.c2, .slice p.a3 d.re.length p.c3, .int .i64 d.er, .int .i64 d.ph, .int .i64 d.al, .int .i64 d.pa, .int .i64 d.no, .bool d.rs, .bool d.et, .string d.pr, .slice p.a12 d.ex.length p.c12, .slice p.a13 d.tr.length p.c13, .slice p.a14 d.tk.length p.c14, .slice p.a15 d.pk.length p.c15, .slice p.a16 d.rn.length p.c16, .int .i64 d.gt, .int .i64 d.li, .string d.ho, .string d.sp, .int .i64 d.ea, .int .i64 d.wd, .slice p.a23 d.ms.length p.c23] [.int .i64 0, .slice none 0 0, .slice none 0 0, .slice none 0 0, .int .i64 0, .int .i64 0, .int .i64 0, .int .i64 0, .int .i64 0, .bool false, .bool false, .string ⟨#[]⟩, .slice none 0 0, .slice none 0 0, .slice none 0 0, .slice none 0 0, .slice none 0 0, .int .i64 0, .int .i64 0, .string ⟨#[]⟩, .string ⟨#[]⟩, .int .i64 0, .int .i64 0, .slice none 0 0] [.int .i64 0, .slice none 0 0, .slice none 0 0, .slice none 0 0, .int .i64 0, .int .i64 0, .int .i64 0, .int .i64 0, .int .i64 0, .bool false, .bool false, .string ⟨#[]⟩, .slice none 0 0, .slice none 0 0, .slice none 0 0, .slice none 0 0, .slice none 0 0, .int .i64 0, .int .i64 0, .string ⟨#[]⟩, .string ⟨#[]⟩, .int .i64 0, .int .i64 0, .slice none 0 0] := T0
  generalize ((w.alloc (.cells #[.int .i64 d.fa, .slice p.a1 d.an.length p.c1, .slice p.a2 d.se.length p.c2, .slice p.a3 d.re.length p.c3, .int .i64 d.er, .int .i64 d.ph, .int .i64 d.al, .int .i64 d.pa, .int .i64 d.no, .bool d.rs, .bool d.et, .string d.pr, .slice p.a12 d.ex.length p.c12, .slice p.a13 d.tr.length p.c13, .slice p.a14 d.tk.length p.c14, .slice p.a15 d.pk.length p.c15, .slice p.a16 d.rn.length p.c16, .int .i64 d.gt, .int .i64 d.li, .string d.ho, .string d.sp, .int .i64 d.ea, .int .i64 d.wd, .slice p.a23 d.ms.length p.c23] 30)).alloc (.cells #[.int .i64 0, .slice none 0 0, .slice none 0 0, .slice none 0 0, .int .i64 0, .int .i64 0, .int .i64 0, .int .i64 0, .int .i64 0, .bool false, .bool false, .string ⟨#[]⟩, .slice none 0 0, .slice none 0 0, .slice none 0 0, .slice none 0 0, .slice none 0 0, .int .i64 0, .int .i64 0, .string ⟨#[]⟩, .string ⟨#[]⟩, .int .i64 0, .int .i64 0, .slice none 0 0] 40)).alloc (.cells #[.int .i64 0, .slice none 0 0, .slice none 0 0, .slice none 0 0, .int .i64 0, .int .i64 0, .int .i64 0, .int .i64 0, .int .i64 0, .bool false, .bool false, .string ⟨#[]⟩, .slice none 0 0, .slice none 0 0, .slice none 0 0, .slice none 0 0, .slice none 0 0, .int .i64 0, .int .i64 0, .string ⟨#[]⟩, .string ⟨#[]⟩, .int .i64 0, .int .i64 0, .slice none 0 0] 40) = X0 at *
  have q0 : X0.cell? ⟨w.heap.size, 0, none⟩ = some (.int .i64 d.fa) := T0.S.cell 0
  have q1 : X0.cell? ⟨w.heap.size + 1 + 1, 0, none⟩ = some (.int .i64 0) := T0.T.cell 0
  have q2 := T0.T.free 0
  have T6 : TMs w (X0.setCell ⟨w.heap.size + 1 + 1, 0, none⟩ (.int .i64 d.fa)) 30 40 [.int .i64 d.fa, .slice p.a1 d.an.length p.c1, .slice p.a2 d.se.length p.c2, .slice p.a3 d.re.length p.c3, .int .i64 d.er, .int .i64 d.ph, .int .i64 d.al, .int .i64 d.pa, .int .i64 d.no, .bool d.rs, .bool d.et, .string d.pr, .slice p.a12 d.ex.length p.c12, .slice p.a13 d.tr.length p.c13, .slice p.a14 d.tk.length p.c14, .slice p.a15 d.pk.length p.c15, .slice p.a16 d.rn.length p.c16, .int .i64 d.gt, .int .i64 d.li, .string d.ho, .string d.sp, .int .i64 d.ea, .int .i64 d.wd, .slice p.a23 d.ms.length p.c23] [.int .i64 0, .slice none 0 0, .slice none 0 0, .slice none 0 0, .int .i64 0, .int .i64 0, .int .i64 0, .int .i64 0, .int .i64 0, .bool false, .bool false, .string ⟨#[]⟩, .slice none 0 0, .slice none 0 0, .slice none 0 0, .slice none 0 0, .slice none 0 0, .int .i64 0, .int .i64 0, .string ⟨#[]⟩, .string ⟨#[]⟩, .int .i64 0, .int .i64 0, .slice none 0 0] [.int .i64 d.fa, .slice none 0 0, .slice none 0 0, .slice none 0 0, .int .i64 0, .int .i64 0, .int .i64 0, .int .i64 0, .int .i64 0, .bool false, .bool false, .string ⟨#[]⟩, .slice none 0 0, .slice none 0 0, .slice none 0 0, .slice none 0 0, .slice none 0 0, .int .i64 0, .int .i64 0, .string ⟨#[]⟩, .string ⟨#[]⟩, .int .i64 0, .int .i64 0, .slice none 0 0] := T0.set 0 _
  go_upto_region 3 with fail
  clear q0 q1 q2 T0
  generalize X0.setCell ⟨w.heap.size + 1 + 1, 0, none⟩ (.int .i64 d.fa) = X1 at *
  have T0 := T6
  clear T6
  have qS : X1.cell? ⟨w.heap.size, 1, none⟩ = some (.slice p.a1 d.an.length p.c1) := T0.S.cell 1
  have TB := hide (cpIntS X1 p.g1 p.a1 p.c1 d.an (h.an.up T0.N) k.an)
  go_wp2_with fail
  refine TB.out.mono ?_
  rintro e V1 ⟨Pan, rfl, Fan, m⟩
  have lt := T0.T.lt
  have T2 := T0.up m
  replace Fan := Fan.mono (show (w.heap.size + 1 + 1 + 1) ≤ _ by omega)
  clear TB qS T0 m
  have qT : V1.cell? ⟨w.heap.size + 1 + 1, 1, none⟩ = some (.slice none 0 0) := T2.T.cell 1
  have qF := T2.T.free 1
  have T3 : TMs w (V1.setCell ⟨w.heap.size + 1 + 1, 1, none⟩ (.slice (some ⟨Pan, 0, none⟩) d.an.length d.an.length)) 30 40 [.int .i64 d.fa, .slice p.a1 d.an.length p.c1, .slice p.a2 d.se.length p.c2, .slice p.a3 d.re.length p.c3, .int .i64 d.er, .int .i64 d.ph, .int .i64 d.al, .int .i64 d.pa, .int .i64 d.no, .bool d.rs, .bool d.et, .string d.pr, .slice p.a12 d.ex.length p.c12, .slice p.a13 d.tr.length p.c13, .slice p.a14 d.tk.length p.c14, .slice p.a15 d.pk.length p.c15, .slice p.a16 d.rn.length p.c16, .int .i64 d.gt, .int .i64 d.li, .string d.ho, .string d.sp, .int .i64 d.ea, .int .i64 d.wd, .slice p.a23 d.ms.length p.c23] [.int .i64 0, .slice none 0 0, .slice none 0 0, .slice none 0 0, .int .i64 0, .int .i64 0, .int .i64 0, .int .i64 0, .int .i64 0, .bool false, .bool false, .string ⟨#[]⟩, .slice none 0 0, .slice none 0 0, .slice none 0 0, .slice none 0 0, .slice none 0 0, .int .i64 0, .int .i64 0, .string ⟨#[]⟩, .string ⟨#[]⟩, .int .i64 0, .int .i64 0, .slice none 0 0] [.int .i64 d.fa, .slice (some ⟨Pan, 0, none⟩) d.an.length d.an.length, .slice none 0 0, .slice none 0 0, .int .i64 0, .int .i64 0, .int .i64 0, .int .i64 0, .int .i64 0, .bool false, .bool false, .string ⟨#[]⟩, .slice none 0 0, .slice none 0 0, .slice none 0 0, .slice none 0 0, .slice none 0 0, .int .i64 0, .int .i64 0, .string ⟨#[]⟩, .string ⟨#[]⟩, .int .i64 0, .int .i64 0, .slice none 0 0] := T2.set 1 _
  replace Fan := Fan.onl (Only.setCell V1 (w.heap.size + 1 + 1) 1 (.slice (some ⟨Pan, 0, none⟩) d.an.length d.an.length)) (by omega)
  go_upto_region 4 with fail
  clear T2 qT qF lt
  generalize V1.setCell ⟨w.heap.size + 1 + 1, 1, none⟩ (.slice (some ⟨Pan, 0, none⟩) d.an.length d.an.length) = X2 at *
  have T0 := T3
  clear T3
  have qS : X2.cell? ⟨w.heap.size, 2, none⟩ = some (.slice p.a2 d.se.length p.c2) := T0.S.cell 2
  have TB := hide (cpByteS X2 p.g2 p.a2 p.c2 d.se (h.se.up T0.N) k.se)
  go_wp2_with fail
  refine TB.out.mono ?_
  rintro e V2 ⟨Pse, rfl, Fse, m⟩
  have lt := T0.T.lt
  have T2 := T0.up m
  replace Fan := Fan.up m
  replace Fse := Fse.mono (show (w.heap.size + 1 + 1 + 1) ≤ _ by omega)
  clear TB qS T0 m
  have qT : V2.cell? ⟨w.heap.size + 1 + 1, 2, none⟩ = some (.slice none 0 0) := T2.T.cell 2
  have qF := T2.T.free 2
  have T3 : TMs w (V2.setCell ⟨w.heap.size + 1 + 1, 2, none⟩ (.slice (some ⟨Pse, 0, none⟩) d.se.length d.se.length)) 30 40 [.int .i64 d.fa, .slice p.a1 d.an.length p.c1, .slice p.a2 d.se.length p.c2, .slice p.a3 d.re.length p.c3, .int .i64 d.er, .int .i64 d.ph, .int .i64 d.al, .int .i64 d.pa, .int .i64 d.no, .bool d.rs, .bool d.et, .string d.pr, .slice p.a12 d.ex.length p.c12, .slice p.a13 d.tr.length p.c13, .slice p.a14 d.tk.length p.c14, .slice p.a15 d.pk.length p.c15, .slice p.a16 d.rn.length p.c16, .int .i64 d.gt, .int .i64 d.li, .string d.ho, .string d.sp, .int .i64 d.ea, .int .i64 d.wd, .slice p.a23 d.ms.length p.c23] [.int .i64 0, .slice none 0 0, .slice none 0 0, .slice none 0 0, .int .i64 0, .int .i64 0, .int .i64 0, .int .i64 0, .int .i64 0, .bool false, .bool false, .string ⟨#[]⟩, .slice none 0 0, .slice none 0 0, .slice none 0 0, .slice none 0 0, .slice none 0 0, .int .i64 0, .int .i64 0, .string ⟨#[]⟩, .string ⟨#[]⟩, .int .i64 0, .int .i64 0, .slice none 0 0] [.int .i64 d.fa, .slice (some ⟨Pan, 0, none⟩) d.an.length d.an.length, .slice (some ⟨Pse, 0, none⟩) d.se.length d.se.length, .slice none 0 0, .int .i64 0, .int .i64 0, .int .i64 0, .int .i64 0, .int .i64 0, .bool false, .bool false, .string ⟨#[]⟩, .slice none 0 0, .slice none 0 0, .slice none 0 0, .slice none 0 0, .slice none 0 0, .int .i64 0, .int .i64 0, .string ⟨#[]⟩, .string ⟨#[]⟩, .int .i64 0, .int .i64 0, .slice none 0 0] := T2.set 2 _
  replace Fan := Fan.onl (Only.setCell V2 (w.heap.size + 1 + 1) 2 (.slice (some ⟨Pse, 0, none⟩) d.se.length d.se.length)) (by omega)
  replace Fse := Fse.onl (Only.setCell V2 (w.heap.size + 1 + 1) 2 (.slice (some ⟨Pse, 0, none⟩) d.se.length d.se.length)) (by omega)
  go_upto_region 5 with fail
  clear T2 qT qF lt
  generalize V2.setCell ⟨w.heap.size + 1 + 1, 2, none⟩ (.slice (some ⟨Pse, 0, none⟩) d.se.length d.se.length) = X3 at *
  have T0 := T3
  clear T3
  have qS : X3.cell? ⟨w.heap.size, 3, none⟩ = some (.slice p.a3 d.re.length p.c3) := T0.S.cell 3
  have TB := hide (cpByteS X3 p.g3 p.a3 p.c3 d.re (h.re.up T0.N) k.re)
  go_wp2_with fail
  refine TB.out.mono ?_
  rintro e V3 ⟨Pre, rfl, Fre, m⟩
  have lt := T0.T.lt
  have T2 := T0.up m
  replace Fan := Fan.up m
  replace Fse := Fse.up m
  replace Fre := Fre.mono (show (w.heap.size + 1 + 1 + 1) ≤ _ by omega)
  clear TB qS T0 m
  have qT : V3.cell? ⟨w.heap.size + 1 + 1, 3, none⟩ = some (.slice none 0 0) := T2.T.cell 3
  have qF := T2.T.free 3
  have T3 : TMs w (V3.setCell ⟨w.heap.size + 1 + 1, 3, none⟩ (.slice (some ⟨Pre, 0, none⟩) d.re.length d.re.length)) 30 40 [.int .i64 d.fa, .slice p.a1 d.an.length p.c1, .slice p.a2 d.se.length p.c2, .slice p.a3 d.re.length p.c3, .int .i64 d.er, .int .i64 d.ph, .int .i64 d.al, .int .i64 d.pa, .int .i64 d.no, .bool d.rs, .bool d.et, .string d.pr, .slice p.a12 d.ex.length p.c12, .slice p.a13 d.tr.length p.c13, .slice p.a14 d.tk.length p.c14, .slice p.a15 d.pk.length p.c15, .slice p.a16 d.rn.length p.c16, .int .i64 d.gt, .int .i64 d.li, .string d.ho, .string d.sp, .int .i64 d.ea, .int .i64 d.wd, .slice p.a23 d.ms.length p.c23] [.int .i64 0, .slice none 0 0, .slice none 0 0, .slice none 0 0, .int .i64 0, .int .i64 0, .int .i64 0, .int .i64 0, .int .i64 0, .bool false, .bool false, .string ⟨#[]⟩, .slice none 0 0, .slice none 0 0, .slice none 0 0, .slice none 0 0, .slice none 0 0, .int .i64 0, .int .i64 0, .string ⟨#[]⟩, .string ⟨#[]⟩, .int .i64 0, .int .i64 0, .slice none 0 0] [.int .i64 d.fa, .slice (some ⟨Pan, 0, none⟩) d.an.length d.an.length, .slice (some ⟨Pse, 0, none⟩) d.se.length d.se.length, .slice (some ⟨Pre, 0, none⟩) d.re.length d.re.length, .int .i64 0, .int .i64 0, .int .i64 0, .int .i64 0, .int .i64 0, .bool false, .bool false, .string ⟨#[]⟩, .slice none 0 0, .slice none 0 0, .slice none 0 0, .slice none 0 0, .slice none 0 0, .int .i64 0, .int .i64 0, .string ⟨#[]⟩, .string ⟨#[]⟩, .int .i64 0, .int .i64 0, .slice none 0 0] := T2.set 3 _
  replace Fan := Fan.onl (Only.setCell V3 (w.heap.size + 1 + 1) 3 (.slice (some ⟨Pre, 0, none⟩) d.re.length d.re.length)) (by omega)
  replace Fse := Fse.onl (Only.setCell V3 (w.heap.size + 1 + 1) 3 (.slice (some ⟨Pre, 0, none⟩) d.re.length d.re.length)) (by omega)
  replace Fre := Fre.onl (Only.setCell V3 (w.heap.size + 1 + 1) 3 (.slice (some ⟨Pre, 0, none⟩) d.re.length d.re.length)) (by omega)
  go_upto_region 6 with fail
  clear T2 qT qF lt
  generalize V3.setCell ⟨w.heap.size + 1 + 1, 3, none⟩ (.slice (some ⟨Pre, 0, none⟩) d.re.length d.re.length) = X4 at *
  have T0 := T3
  clear T3
  have q0 : X4.cell? ⟨w.heap.size, 4, none⟩ = some (.int .i64 d.er) := T0.S.cell 4
  have q1 : X4.cell? ⟨w.heap.size + 1 + 1, 4, none⟩ = some (.int .i64 0) := T0.T.cell 4
  have q2 := T0.T.free 4
  have T6 : TMs w (X4.setCell ⟨w.heap.size + 1 + 1, 4, none⟩ (.int .i64 d.er)) 30 40 [.int .i64 d.fa, .slice p.a1 d.an.length p.c1, .slice p.a2 d.se.length p.c2, .slice p.a3 d.re.length p.c3, .int .i64 d.er, .int .i64 d.ph, .int .i64 d.al, .int .i64 d.pa, .int .i64 d.no, .bool d.rs, .bool d.et, .string d.pr, .slice p.a12 d.ex.length p.c12, .slice p.a13 d.tr.length p.c13, .slice p.a14 d.tk.length p.c14, .slice p.a15 d.pk.length p.c15, .slice p.a16 d.rn.length p.c16, .int .i64 d.gt, .int .i64 d.li, .string d.ho, .string d.sp, .int .i64 d.ea, .int .i64 d.wd, .slice p.a23 d.ms.length p.c23] [.int .i64 0, .slice none 0 0, .slice none 0 0, .slice none 0 0, .int .i64 0, .int .i64 0, .int .i64 0, .int .i64 0, .int .i64 0, .bool false, .bool false, .string ⟨#[]⟩, .slice none 0 0, .slice none 0 0, .slice none 0 0, .slice none 0 0, .slice none 0 0, .int .i64 0, .int .i64 0, .string ⟨#[]⟩, .string ⟨#[]⟩, .int .i64 0, .int .i64 0, .slice none 0 0] [.int .i64 d.fa, .slice (some ⟨Pan, 0, none⟩) d.an.length d.an.length, .slice (some ⟨Pse, 0, none⟩) d.se.length d.se.length, .slice (some ⟨Pre, 0, none⟩) d.re.length d.re.length, .int .i64 d.er, .int .i64 0, .int .i64 0, .int .i64 0, .int .i64 0, .bool false, .bool false, .string ⟨#[]⟩, .slice none 0 0, .slice none 0 0, .slice none 0 0, .slice none 0 0, .slice none 0 0, .int .i64 0, .int .i64 0, .string ⟨#[]⟩, .string ⟨#[]⟩, .int .i64 0, .int .i64 0, .slice none 0 0] := T0.set 4 _
  replace Fan := Fan.onl (Only.setCell X4 (w.heap.size + 1 + 1) 4 (.int .i64 d.er)) (by omega)
  replace Fse := Fse.onl (Only.setCell X4 (w.heap.size + 1 + 1) 4 (.int .i64 d.er)) (by omega)
  replace Fre := Fre.onl (Only.setCell X4 (w.heap.size + 1 + 1) 4 (.int .i64 d.er)) (by omega)
  go_upto_region 7 with fail
  clear q0 q1 q2 T0
  generalize X4.setCell ⟨w.heap.size + 1 + 1, 4, none⟩ (.int .i64 d.er) = X5 at *
  have T0 := T6
  clear T6
  have q0 : X5.cell? ⟨w.heap.size, 5, none⟩ = some (.int .i64 d.ph) := T0.S.cell 5
  have q1 : X5.cell? ⟨w.heap.size + 1 + 1, 5, none⟩ = some (.int .i64 0) := T0.T.cell 5
  have q2 := T0.T.free 5
  have T6 : TMs w (X5.setCell ⟨w.heap.size + 1 + 1, 5, none⟩ (.int .i64 d.ph)) 30 40 [.int .i64 d.fa, .slice p.a1 d.an.length p.c1, .slice p.a2 d.se.length p.c2, .slice p.a3 d.re.length p.c3, .int .i64 d.er, .int .i64 d.ph, .int .i64 d.al, .int .i64 d.pa, .int .i64 d.no, .bool d.rs, .bool d.et, .string d.pr, .slice p.a12 d.ex.length p.c12, .slice p.a13 d.tr.length p.c13, .slice p.a14 d.tk.length p.c14, .slice p.a15 d.pk.length p.c15, .slice p.a16 d.rn.length p.c16, .int .i64 d.gt, .int .i64 d.li, .string d.ho, .string d.sp, .int .i64 d.ea, .int .i64 d.wd, .slice p.a23 d.ms.length p.c23] [.int .i64 0, .slice none 0 0, .slice none 0 0, .slice none 0 0, .int .i64 0, .int .i64 0, .int .i64 0, .int .i64 0, .int .i64 0, .bool false, .bool false, .string ⟨#[]⟩, .slice none 0 0, .slice none 0 0, .slice none 0 0, .slice none 0 0, .slice none 0 0, .int .i64 0, .int .i64 0, .string ⟨#[]⟩, .string ⟨#[]⟩, .int .i64 0, .int .i64 0, .slice none 0 0] [.int .i64 d.fa, .slice (some ⟨Pan, 0, none⟩) d.an.length d.an.length, .slice (some ⟨Pse, 0, none⟩) d.se.length d.se.length, .slice (some ⟨Pre, 0, none⟩) d.re.length d.re.length, .int .i64 d.er, .int .i64 d.ph, .int .i64 0, .int .i64 0, .int .i64 0, .bool false, .bool false, .string ⟨#[]⟩, .slice none 0 0, .slice none 0 0, .slice none 0 0, .slice none 0 0, .slice none 0 0, .int .i64 0, .int .i64 0, .string ⟨#[]⟩, .string ⟨#[]⟩, .int .i64 0, .int .i64 0, .slice none 0 0] := T0.set 5 _
  replace Fan := Fan.onl (Only.setCell X5 (w.heap.size + 1 + 1) 5 (.int .i64 d.ph)) (by omega)
  replace Fse := Fse.onl (Only.setCell X5 (w.heap.size + 1 + 1) 5 (.int .i64 d.ph)) (by omega)
  replace Fre := Fre.onl (Only.setCell X5 (w.heap.size + 1 + 1) 5 (.int .i64 d.ph)) (by omega)
  go_upto_region 8 with fail
  clear q0 q1 q2 T0
  generalize X5.setCell ⟨w.heap.size + 1 + 1, 5, none⟩ (.int .i64 d.ph) = X6 at *
  have T0 := T6
  clear T6
  have q0 : X6.cell? ⟨w.heap.size, 6, none⟩ = some (.int .i64 d.al) := T0.S.cell 6
  have q1 : X6.cell? ⟨w.heap.size + 1 + 1, 6, none⟩ = some (.int .i64 0) := T0.T.cell 6
  have q2 := T0.T.free 6
  have T6 : TMs w (X6.setCell ⟨w.heap.size + 1 + 1, 6, none⟩ (.int .i64 d.al)) 30 40 [.int .i64 d.fa, .slice p.a1 d.an.length p.c1, .slice p.a2 d.se.length p.c2, .slice p.a3 d.re.length p.c3, .int .i64 d.er, .int .i64 d.ph, .int .i64 d.al, .int .i64 d.pa, .int .i64 d.no, .bool d.rs, .bool d.et, .string d.pr, .slice p.a12 d.ex.length p.c12, .slice p.a13 d.tr.length p.c13, .slice p.a14 d.tk.length p.c14, .slice p.a15 d.pk.length p.c15, .slice p.a16 d.rn.length p.c16, .int .i64 d.gt, .int .i64 d.li, .string d.ho, .string d.sp, .int .i64 d.ea, .int .i64 d.wd, .slice p.a23 d.ms.length p.c23] [.int .i64 0, .slice none 0 0, .slice none 0 0, .slice none 0 0, .int .i64 0, .int .i64 0, .int .i64 0, .int .i64 0, .int .i64 0, .bool false, .bool false, .string ⟨#[]⟩, .slice none 0 0, .slice none 0 0, .slice none 0 0, .slice none 0 0, .slice none 0 0, .int .i64 0, .int .i64 0, .string ⟨#[]⟩, .string ⟨#[]⟩, .int .i64 0, .int .i64 0, .slice none 0 0] [.int .i64 d.fa, .slice (some ⟨Pan, 0, none⟩) d.an.length d.an.length, .slice (some ⟨Pse, 0, none⟩) d.se.length d.se.length, .slice (some ⟨Pre, 0, none⟩) d.re.length d.re.length, .int .i64 d.er, .int .i64 d.ph, .int .i64 d.al, .int .i64 0, .int .i64 0, .bool false, .bool false, .string ⟨#[]⟩, .slice none 0 0, .slice none 0 0, .slice none 0 0, .slice none 0 0, .slice none 0 0, .int .i64 0, .int .i64 0, .string ⟨#[]⟩, .string ⟨#[]⟩, .int .i64 0, .int .i64 0, .slice none 0 0] := T0.set 6 _
  replace Fan := Fan.onl (Only.setCell X6 (w.heap.size + 1 + 1) 6 (.int .i64 d.al)) (by omega)
  replace Fse := Fse.onl (Only.setCell X6 (w.heap.size + 1 + 1) 6 (.int .i64 d.al)) (by omega)
  replace Fre := Fre.onl (Only.setCell X6 (w.heap.size + 1 + 1) 6 (.int .i64 d.al)) (by omega)
  go_upto_region 9 with fail
  clear q0 q1 q2 T0
  generalize X6.setCell ⟨w.heap.size + 1 + 1, 6, none⟩ (.int .i64 d.al) = X7 at *
  have T0 := T6
  clear T6
  have q0 : X7.cell? ⟨w.heap.size, 7, none⟩ = some (.int .i64 d.pa) := T0.S.cell 7
  have q1 : X7.cell? ⟨w.heap.size + 1 + 1, 7, none⟩ = some (.int .i64 0) := T0.T.cell 7
  have q2 := T0.T.free 7
  have T6 : TMs w (X7.setCell ⟨w.heap.size + 1 + 1, 7, none⟩ (.int .i64 d.pa)) 30 40 [.int .i64 d.fa, .slice p.a1 d.an.length p.c1, .slice p.a2 d.se.length p.c2, .slice p.a3 d.re.length p.c3, .int .i64 d.er, .int .i64 d.ph, .int .i64 d.al, .int .i64 d.pa, .int .i64 d.no, .bool d.rs, .bool d.et, .string d.pr, .slice p.a12 d.ex.length p.c12, .slice p.a13 d.tr.length p.c13, .slice p.a14 d.tk.length p.c14, .slice p.a15 d.pk.length p.c15, .slice p.a16 d.rn.length p.c16, .int .i64 d.gt, .int .i64 d.li, .string d.ho, .string d.sp, .int .i64 d.ea, .int .i64 d.wd, .slice p.a23 d.ms.length p.c23] [.int .i64 0, .slice none 0 0, .slice none 0 0, .slice none 0 0, .int .i64 0, .int .i64 0, .int .i64 0, .int .i64 0, .int .i64 0, .bool false, .bool false, .string ⟨#[]⟩, .slice none 0 0, .slice none 0 0, .slice none 0 0, .slice none 0 0, .slice none 0 0, .int .i64 0, .int .i64 0, .string ⟨#[]⟩, .string ⟨#[]⟩, .int .i64 0, .int .i64 0, .slice none 0 0] [.int .i64 d.fa, .slice (some ⟨Pan, 0, none⟩) d.an.length d.an.length, .slice (some ⟨Pse, 0, none⟩) d.se.length d.se.length, .slice (some ⟨Pre, 0, none⟩) d.re.length d.re.length, .int .i64 d.er, .int .i64 d.ph, .int .i64 d.al, .int .i64 d.pa, .int .i64 0, .bool false, .bool false, .string ⟨#[]⟩, .slice none 0 0, .slice none 0 0, .slice none 0 0, .slice none 0 0, .slice none 0 0, .int .i64 0, .int .i64 0, .string ⟨#[]⟩, .string ⟨#[]⟩, .int .i64 0, .int .i64 0, .slice none 0 0] := T0.set 7 _
  replace Fan := Fan.onl (Only.setCell X7 (w.heap.size + 1 + 1) 7 (.int .i64 d.pa)) (by omega)
  replace Fse := Fse.onl (Only.setCell X7 (w.heap.size + 1 + 1) 7 (.int .i64 d.pa)) (by omega)
  replace Fre := Fre.onl (Only.setCell X7 (w.heap.size + 1 + 1) 7 (.int .i64 d.pa)) (by omega)
  go_upto_region 10 with fail
  clear q0 q1 q2 T0
  generalize X7.setCell ⟨w.heap.size + 1 + 1, 7, none⟩ (.int .i64 d.pa) = X8 at *
  have T0 := T6
  clear T6
  have q0 : X8.cell? ⟨w.heap.size, 8, none⟩ = some (.int .i64 d.no) := T0.S.cell 8
  have q1 : X8.cell? ⟨w.heap.size + 1 + 1, 8, none⟩ = some (.int .i64 0) := T0.T.cell 8
  have q2 := T0.T.free 8
  have T6 : TMs w (X8.setCell ⟨w.heap.size + 1 + 1, 8, none⟩ (.int .i64 d.no)) 30 40 [.int .i64 d.fa, .slice p.a1 d.an.length p.c1, .slice p.a2 d.se.length p.c2, .slice p.a3 d.re.length p.c3, .int .i64 d.er, .int .i64 d.ph, .int .i64 d.al, .int .i64 d.pa, .int .i64 d.no, .bool d.rs, .bool d.et, .string d.pr, .slice p.a12 d.ex.length p.c12, .slice p.a13 d.tr.length p.c13, .slice p.a14 d.tk.length p.c14, .slice p.a15 d.pk.length p.c15, .slice p.a16 d.rn.length p.c16, .int .i64 d.gt, .int .i64 d.li, .string d.ho, .string d.sp, .int .i64 d.ea, .int .i64 d.wd, .slice p.a23 d.ms.length p.c23] [.int .i64 0, .slice none 0 0, .slice none 0 0, .slice none 0 0, .int .i64 0, .int .i64 0, .int .i64 0, .int .i64 0, .int .i64 0, .bool false, .bool false, .string ⟨#[]⟩, .slice none 0 0, .slice none 0 0, .slice none 0 0, .slice none 0 0, .slice none 0 0, .int .i64 0, .int .i64 0, .string ⟨#[]⟩, .string ⟨#[]⟩, .int .i64 0, .int .i64 0, .slice none 0 0] [.int .i64 d.fa, .slice (some ⟨Pan, 0, none⟩) d.an.length d.an.length, .slice (some ⟨Pse, 0, none⟩) d.se.length d.se.length, .slice (some ⟨Pre, 0, none⟩) d.re.length d.re.length, .int .i64 d.er, .int .i64 d.ph, .int .i64 d.al, .int .i64 d.pa, .int .i64 d.no, .bool false, .bool false, .string ⟨#[]⟩, .slice none 0 0, .slice none 0 0, .slice none 0 0, .slice none 0 0, .slice none 0 0, .int .i64 0, .int .i64 0, .string ⟨#[]⟩, .string ⟨#[]⟩, .int .i64 0, .int .i64 0, .slice none 0 0] := T0.set 8 _
  replace Fan := Fan.onl (Only.setCell X8 (w.heap.size + 1 + 1) 8 (.int .i64 d.no)) (by omega)
  replace Fse := Fse.onl (Only.setCell X8 (w.heap.size + 1 + 1) 8 (.int .i64 d.no)) (by omega)
  replace Fre := Fre.onl (Only.setCell X8 (w.heap.size + 1 + 1) 8 (.int .i64 d.no)) (by omega)
  go_upto_region 11 with fail
  clear q0 q1 q2 T0
  generalize X8.setCell ⟨w.heap.size + 1 + 1, 8, none⟩ (.int .i64 d.no) = X9 at *
  have T0 := T6
  clear T6
  have q0 : X9.cell? ⟨w.heap.size, 9, none⟩ = some (.bool d.rs) := T0.S.cell 9
  have q1 : X9.cell? ⟨w.heap.size + 1 + 1, 9, none⟩ = some (.bool false) := T0.T.cell 9
  have q2 := T0.T.free 9
  have T6 : TMs w (X9.setCell ⟨w.heap.size + 1 + 1, 9, none⟩ (.bool d.rs)) 30 40 [.int .i64 d.fa, .slice p.a1 d.an.length p.c1, .slice p.a2 d.se.length p.c2, .slice p.a3 d.re.length p.c3, .int .i64 d.er, .int .i64 d.ph, .int .i64 d.al, .int .i64 d.pa, .int .i64 d.no, .bool d.rs, .bool d.et, .string d.pr, .slice p.a12 d.ex.length p.c12, .slice p.a13 d.tr.length p.c13, .slice p.a14 d.tk.length p.c14, .slice p.a15 d.pk.length p.c15, .slice p.a16 d.rn.length p.c16, .int .i64 d.gt, .int .i64 d.li, .string d.ho, .string d.sp, .int .i64 d.ea, .int .i64 d.wd, .slice p.a23 d.ms.length p.c23] [.int .i64 0, .slice none 0 0, .slice none 0 0, .slice none 0 0, .int .i64 0, .int .i64 0, .int .i64 0, .int .i64 0, .int .i64 0, .bool false, .bool false, .string ⟨#[]⟩, .slice none 0 0, .slice none 0 0, .slice none 0 0, .slice none 0 0, .slice none 0 0, .int .i64 0, .int .i64 0, .string ⟨#[]⟩, .string ⟨#[]⟩, .int .i64 0, .int .i64 0, .slice none 0 0] [.int .i64 d.fa, .slice (some ⟨Pan, 0, none⟩) d.an.length d.an.length, .slice (some ⟨Pse, 0, none⟩) d.se.length d.se.length, .slice (some ⟨Pre, 0, none⟩) d.re.length d.re.length, .int .i64 d.er, .int .i64 d.ph, .int .i64 d.al, .int .i64 d.pa, .int .i64 d.no, .bool d.rs, .bool false, .string ⟨#[]⟩, .slice none 0 0, .slice none 0 0, .slice none 0 0, .slice none 0 0, .slice none 0 0, .int .i64 0, .int .i64 0, .string ⟨#[]⟩, .string ⟨#[]⟩, .int .i64 0, .int .i64 0, .slice none 0 0] := T0.set 9 _
  replace Fan := Fan.onl (Only.setCell X9 (w.heap.size + 1 + 1) 9 (.bool d.rs)) (by omega)
  replace Fse := Fse.onl (Only.setCell X9 (w.heap.size + 1 + 1) 9 (.bool d.rs)) (by omega)
  replace Fre := Fre.onl (Only.setCell X9 (w.heap.size + 1 + 1) 9 (.bool d.rs)) (by omega)
  go_upto_region 12 with fail
  clear q0 q1 q2 T0
  generalize X9.setCell ⟨w.heap.size + 1 + 1, 9, none⟩ (.bool d.rs) = X10 at *
  have T0 := T6
  clear T6
  have q0 : X10.cell? ⟨w.heap.size, 10, none⟩ = some (.bool d.et) := T0.S.cell 10
  have q1 : X10.cell? ⟨w.heap.size + 1 + 1, 10, none⟩ = some (.bool false) := T0.T.cell 10
  have q2 := T0.T.free 10
  have T6 : TMs w (X10.setCell ⟨w.heap.size + 1 + 1, 10, none⟩ (.bool d.et)) 30 40 [.int .i64 d.fa, .slice p.a1 d.an.length p.c1, .slice p.a2 d.se.length p.c2, .slice p.a3 d.re.length p.c3, .int .i64 d.er, .int .i64 d.ph, .int .i64 d.al, .int .i64 d.pa, .int .i64 d.no, .bool d.rs, .bool d.et, .string d.pr, .slice p.a12 d.ex.length p.c12, .slice p.a13 d.tr.length p.c13, .slice p.a14 d.tk.length p.c14, .slice p.a15 d.pk.length p.c15, .slice p.a16 d.rn.length p.c16, .int .i64 d.gt, .int .i64 d.li, .string d.ho, .string d.sp, .int .i64 d.ea, .int .i64 d.wd, .slice p.a23 d.ms.length p.c23] [.int .i64 0, .slice none 0 0, .slice none 0 0, .slice none 0 0, .int .i64 0, .int .i64 0, .int .i64 0, .int .i64 0, .int .i64 0, .bool false, .bool false, .string ⟨#[]⟩, .slice none 0 0, .slice none 0 0, .slice none 0 0, .slice none 0 0, .slice none 0 0, .int .i64 0, .int .i64 0, .string ⟨#[]⟩, .string ⟨#[]⟩, .int .i64 0, .int .i64 0, .slice none 0 0] [.int .i64 d.fa, .slice (some ⟨Pan, 0, none⟩) d.an.length d.an.length, .slice (some ⟨Pse, 0, none⟩) d.se.length d.se.length, .slice (some ⟨Pre, 0, none⟩) d.re.length d.re.length, .int .i64 d.er, .int .i64 d.ph, .int .i64 d.al, .int .i64 d.pa, .int .i64 d.no, .bool d.rs, .bool d.et, .string ⟨#[]⟩, .slice none 0 0, .slice none 0 0, .slice none 0 0, .slice none 0 0, .slice none 0 0, .int .i64 0, .int .i64 0, .string ⟨#[]⟩, .string ⟨#[]⟩, .int .i64 0, .int .i64 0, .slice none 0 0] := T0.set 10 _
  replace Fan := Fan.onl (Only.setCell X10 (w.heap.size + 1 + 1) 10 (.bool d.et)) (by omega)
  replace Fse := Fse.onl (Only.setCell X10 (w.heap.size + 1 + 1) 10 (.bool d.et)) (by omega)
  replace Fre := Fre.onl (Only.setCell X10 (w.heap.size + 1 + 1) 10 (.bool d.et)) (by omega)
  go_upto_region 13 with fail
  clear q0 q1 q2 T0
  generalize X10.setCell ⟨w.heap.size + 1 + 1, 10, none⟩ (.bool d.et) = X11 at *
  have T0 := T6
  clear T6
  have q0 : X11.cell? ⟨w.heap.size, 11, none⟩ = some (.string d.pr) := T0.S.cell 11
  have q1 : X11.cell? ⟨w.heap.size + 1 + 1, 11, none⟩ = some (.string ⟨#[]⟩) := T0.T.cell 11
  have q2 := T0.T.free 11
  have T6 : TMs w (X11.setCell ⟨w.heap.size + 1 + 1, 11, none⟩ (.string d.pr)) 30 40 [.int .i64 d.fa, .slice p.a1 d.an.length p.c1, .slice p.a2 d.se.length p.c2, .slice p.a3 d.re.length p.c3, .int .i64 d.er, .int .i64 d.ph, .int .i64 d.al, .int .i64 d.pa, .int .i64 d.no, .bool d.rs, .bool d.et, .string d.pr, .slice p.a12 d.ex.length p.c12, .slice p.a13 d.tr.length p.c13, .slice p.a14 d.tk.length p.c14, .slice p.a15 d.pk.length p.c15, .slice p.a16 d.rn.length p.c16, .int .i64 d.gt, .int .i64 d.li, .string d.ho, .string d.sp, .int .i64 d.ea, .int .i64 d.wd, .slice p.a23 d.ms.length p.c23] [.int .i64 0, .slice none 0 0, .slice none 0 0, .slice none 0 0, .int .i64 0, .int .i64 0, .int .i64 0, .int .i64 0, .int .i64 0, .bool false, .bool false, .string ⟨#[]⟩, .slice none 0 0, .slice none 0 0, .slice none 0 0, .slice none 0 0, .slice none 0 0, .int .i64 0, .int .i64 0, .string ⟨#[]⟩, .string ⟨#[]⟩, .int .i64 0, .int .i64 0, .slice none 0 0] [.int .i64 d.fa, .slice (some ⟨Pan, 0, none⟩) d.an.length d.an.length, .slice (some ⟨Pse, 0, none⟩) d.se.length d.se.length, .slice (some ⟨Pre, 0, none⟩) d.re.length d.re.length, .int .i64 d.er, .int .i64 d.ph, .int .i64 d.al, .int .i64 d.pa, .int .i64 d.no, .bool d.rs, .bool d.et, .string d.pr, .slice none 0 0, .slice none 0 0, .slice none 0 0, .slice none 0 0, .slice none 0 0, .int .i64 0, .int .i64 0, .string ⟨#[]⟩, .string ⟨#[]⟩, .int .i64 0, .int .i64 0, .slice none 0 0] := T0.set 11 _
  replace Fan := Fan.onl (Only.setCell X11 (w.heap.size + 1 + 1) 11 (.string d.pr)) (by omega)
  replace Fse := Fse.onl (Only.setCell X11 (w.heap.size + 1 + 1) 11 (.string d.pr)) (by omega)
  replace Fre := Fre.onl (Only.setCell X11 (w.heap.size + 1 + 1) 11 (.string d.pr)) (by omega)
  go_upto_region 14 with fail
  clear q0 q1 q2 T0
  generalize X11.setCell ⟨w.heap.size + 1 + 1, 11, none⟩ (.string d.pr) = X12 at *
  have T0 := T6
  clear T6
  have qS : X12.cell? ⟨w.heap.size, 12, none⟩ = some (.slice p.a12 d.ex.length p.c12) := T0.S.cell 12
  have TB := hide (cpByteS X12 p.g12 p.a12 p.c12 d.ex (h.ex.up T0.N) k.ex)
  go_wp2_with fail
  refine TB.out.mono ?_
  rintro e V12 ⟨Pex, rfl, Fex, m⟩
  have lt := T0.T.lt
  have T2 := T0.up m
  replace Fan := Fan.up m
  replace Fse := Fse.up m
  replace Fre := Fre.up m
  replace Fex := Fex.mono (show (w.heap.size + 1 + 1 + 1) ≤ _ by omega)
  clear TB qS T0 m
  have qT : V12.cell? ⟨w.heap.size + 1 + 1, 12, none⟩ = some (.slice none 0 0) := T2.T.cell 12
  have qF := T2.T.free 12
  have T3 : TMs w (V12.setCell ⟨w.heap.size + 1 + 1, 12, none⟩ (.slice (some ⟨Pex, 0, none⟩) d.ex.length d.ex.length)) 30 40 [.int .i64 d.fa, .slice p.a1 d.an.length p.c1, .slice p.a2 d.se.length p.c2, .slice p.a3 d.re.length p.c3, .int .i64 d.er, .int .i64 d.ph, .int .i64 d.al, .int .i64 d.pa, .int .i64 d.no, .bool d.rs, .bool d.et, .string d.pr, .slice p.a12 d.ex.length p.c12, .slice p.a13 d.tr.length p.c13, .slice p.a14 d.tk.length p.c14, .slice p.a15 d.pk.length p.c15, .slice p.a16 d.rn.length p.c16, .int .i64 d.gt, .int .i64 d.li, .string d.ho, .string d.sp, .int .i64 d.ea, .int .i64 d.wd, .slice p.a23 d.ms.length p.c23] [.int .i64 0, .slice none 0 0, .slice none 0 0, .slice none 0 0, .int .i64 0, .int .i64 0, .int .i64 0, .int .i64 0, .int .i64 0, .bool false, .bool false, .string ⟨#[]⟩, .slice none 0 0, .slice none 0 0, .slice none 0 0, .slice none 0 0, .slice none 0 0, .int .i64 0, .int .i64 0, .string ⟨#[]⟩, .string ⟨#[]⟩, .int .i64 0, .int .i64 0, .slice none 0 0] [.int .i64 d.fa, .slice (some ⟨Pan, 0, none⟩) d.an.length d.an.length, .slice (some ⟨Pse, 0, none⟩) d.se.length d.se.length, .slice (some ⟨Pre, 0, none⟩) d.re.length d.re.length, .int .i64 d.er, .int .i64 d.ph, .int .i64 d.al, .int .i64 d.pa, .int .i64 d.no, .bool d.rs, .bool d.et, .string d.pr, .slice (some ⟨Pex, 0, none⟩) d.ex.length d.ex.length, .slice none 0 0, .slice none 0 0, .slice none 0 0, .slice none 0 0, .int .i64 0, .int .i64 0, .string ⟨#[]⟩, .string ⟨#[]⟩, .int .i64 0, .int .i64 0, .slice none 0 0] := T2.set 12 _
  replace Fan := Fan.onl (Only.setCell V12 (w.heap.size + 1 + 1) 12 (.slice (some ⟨Pex, 0, none⟩) d.ex.length d.ex.length)) (by omega)
  replace Fse := Fse.onl (Only.setCell V12 (w.heap.size + 1 + 1) 12 (.slice (some ⟨Pex, 0, none⟩) d.ex.length d.ex.length)) (by omega)
  replace Fre := Fre.onl (Only.setCell V12 (w.heap.size + 1 + 1) 12 (.slice (some ⟨Pex, 0, none⟩) d.ex.length d.ex.length)) (by omega)
  replace Fex := Fex.onl (Only.setCell V12 (w.heap.size + 1 + 1) 12 (.slice (some ⟨Pex, 0, none⟩) d.ex.length d.ex.length)) (by omega)
  go_upto_region 15 with fail
  clear T2 qT qF lt
  generalize V12.setCell ⟨w.heap.size + 1 + 1, 12, none⟩ (.slice (some ⟨Pex, 0, none⟩) d.ex.length d.ex.length) = X13 at *
  have T0 := T3
  clear T3
  have qS : X13.cell? ⟨w.heap.size, 13, none⟩ = some (.slice p.a13 d.tr.length p.c13) := T0.S.cell 13
  have TB := hide (cpByteS X13 p.g13 p.a13 p.c13 d.tr (h.tr.up T0.N) k.tr)
  go_wp2_with fail
  refine TB.out.mono ?_
  rintro e V13 ⟨Ptr, rfl, Ftr, m⟩
  have lt := T0.T.lt
  have T2 := T0.up m
  replace Fan := Fan.up m
  replace Fse := Fse.up m
  replace Fre := Fre.up m
  replace Fex := Fex.up m
  replace Ftr := Ftr.mono (show (w.heap.size + 1 + 1 + 1) ≤ _ by omega)
  clear TB qS T0 m
  have qT : V13.cell? ⟨w.heap.size + 1 + 1, 13, none⟩ = some (.slice none 0 0) := T2.T.cell 13
  have qF := T2.T.free 13
  have T3 : TMs w (V13.setCell ⟨w.heap.size + 1 + 1, 13, none⟩ (.slice (some ⟨Ptr, 0, none⟩) d.tr.length d.tr.length)) 30 40 [.int .i64 d.fa, .slice p.a1 d.an.length p.c1, .slice p.a2 d.se.length p.c2, .slice p.a3 d.re.length p.c3, .int .i64 d.er, .int .i64 d.ph, .int .i64 d.al, .int .i64 d.pa, .int .i64 d.no, .bool d.rs, .bool d.et, .string d.pr, .slice p.a12 d.ex.length p.c12, .slice p.a13 d.tr.length p.c13, .slice p.a14 d.tk.length p.c14, .slice p.a15 d.pk.length p.c15, .slice p.a16 d.rn.length p.c16, .int .i64 d.gt, .int .i64 d.li, .string d.ho, .string d.sp, .int .i64 d.ea, .int .i64 d.wd, .slice p.a23 d.ms.length p.c23] [.int .i64 0, .slice none 0 0, .slice none 0 0, .slice none 0 0, .int .i64 0, .int .i64 0, .int .i64 0, .int .i64 0, .int .i64 0, .bool false, .bool false, .string ⟨#[]⟩, .slice none 0 0, .slice none 0 0, .slice none 0 0, .slice none 0 0, .slice none 0 0, .int .i64 0, .int .i64 0, .string ⟨#[]⟩, .string ⟨#[]⟩, .int .i64 0, .int .i64 0, .slice none 0 0] [.int .i64 d.fa, .slice (some ⟨Pan, 0, none⟩) d.an.length d.an.length, .slice (some ⟨Pse, 0, none⟩) d.se.length d.se.length, .slice (some ⟨Pre, 0, none⟩) d.re.length d.re.length, .int .i64 d.er, .int .i64 d.ph, .int .i64 d.al, .int .i64 d.pa, .int .i64 d.no, .bool d.rs, .bool d.et, .string d.pr, .slice (some ⟨Pex, 0, none⟩) d.ex.length d.ex.length, .slice (some ⟨Ptr, 0, none⟩) d.tr.length d.tr.length, .slice none 0 0, .slice none 0 0, .slice none 0 0, .int .i64 0, .int .i64 0, .string ⟨#[]⟩, .string ⟨#[]⟩, .int .i64 0, .int .i64 0, .slice none 0 0] := T2.set 13 _
  replace Fan := Fan.onl (Only.setCell V13 (w.heap.size + 1 + 1) 13 (.slice (some ⟨Ptr, 0, none⟩) d.tr.length d.tr.length)) (by omega)
  replace Fse := Fse.onl (Only.setCell V13 (w.heap.size + 1 + 1) 13 (.slice (some ⟨Ptr, 0, none⟩) d.tr.length d.tr.length)) (by omega)
  replace Fre := Fre.onl (Only.setCell V13 (w.heap.size + 1 + 1) 13 (.slice (some ⟨Ptr, 0, none⟩) d.tr.length d.tr.length)) (by omega)
  replace Fex := Fex.onl (Only.setCell V13 (w.heap.size + 1 + 1) 13 (.slice (some ⟨Ptr, 0, none⟩) d.tr.length d.tr.length)) (by omega)
  replace Ftr := Ftr.onl (Only.setCell V13 (w.heap.size + 1 + 1) 13 (.slice (some ⟨Ptr, 0, none⟩) d.tr.length d.tr.length)) (by omega)
  go_upto_region 16 with fail
  clear T2 qT qF lt
  generalize V13.setCell ⟨w.heap.size + 1 + 1, 13, none⟩ (.slice (some ⟨Ptr, 0, none⟩) d.tr.length d.tr.length) = X14 at *
  have T0 := T3
  clear T3
  have qS := T0.S.part 14 [.slice p.a14 d.tk.length p.c14, .slice p.a15 d.pk.length p.c15, .slice p.a16 d.rn.length p.c16, .int .i64 d.gt, .int .i64 d.li, .string d.ho, .string d.sp, .int .i64 d.ea] rfl
  obtain ⟨dL, hdL, hrL⟩ := rowLSv
  obtain ⟨dM, hdM, hrM⟩ := rowSv
  have TB := hide (cpSaved X14 d.gt d.li d.ho d.sp d.ea p.g14 p.a14 p.c14 d.tk p.g15 p.a15 p.c15 d.pk p.g16 p.a16 p.c16 d.rn (h.tk.up T0.N) (h.pk.up T0.N) (h.rn.up T0.N) k.tk k.pk k.rn)
  go_wp2_with (first | (refine wpList_load_mid rfl 25 (.tmp 51) rfl w.heap.size 14 rfl [.slice p.a14 d.tk.length p.c14, .slice p.a15 d.pk.length p.c15, .slice p.a16 d.rn.length p.c16, .int .i64 d.gt, .int .i64 d.li, .string d.ho, .string d.sp, .int .i64 d.ea] dL qS hdL hrL iLSv ?_) | fail)
  refine TB.out.mono ?_
  rintro e V14 ⟨Ptk, Ppk, Prn, rfl, Ftk, Fpk, Frn, m⟩
  have lt := T0.T.lt
  have T2 := T0.up m
  replace Fan := Fan.up m
  replace Fse := Fse.up m
  replace Fre := Fre.up m
  replace Fex := Fex.up m
  replace Ftr := Ftr.up m
  replace Ftk := Ftk.mono (show (w.heap.size + 1 + 1 + 1) ≤ _ by omega)
  replace Fpk := Fpk.mono (show (w.heap.size + 1 + 1 + 1) ≤ _ by omega)
  replace Frn := Frn.mono (show (w.heap.size + 1 + 1 + 1) ≤ _ by omega)
  clear TB qS T0 m dL hdL hrL
  have qT : V14.there (w.heap.size + 1 + 1) 14 8 := T2.T.tpart 14 8 (by simp)
  have ON := oneSv d.gt d.li d.ho d.sp d.ea (some ⟨Ptk, 0, none⟩) d.tk.length d.tk.length (some ⟨Ppk, 0, none⟩) d.pk.length d.pk.length (some ⟨Prn, 0, none⟩) d.rn.length d.rn.length
  have T3 : TMs w (V14.setCells (w.heap.size + 1 + 1) 14 [.slice (some ⟨Ptk, 0, none⟩) d.tk.length d.tk.length, .slice (some ⟨Ppk, 0, none⟩) d.pk.length d.pk.length, .slice (some ⟨Prn, 0, none⟩) d.rn.length d.rn.length, .int .i64 d.gt, .int .i64 d.li, .string d.ho, .string d.sp, .int .i64 d.ea]) 30 40 [.int .i64 d.fa, .slice p.a1 d.an.length p.c1, .slice p.a2 d.se.length p.c2, .slice p.a3 d.re.length p.c3, .int .i64 d.er, .int .i64 d.ph, .int .i64 d.al, .int .i64 d.pa, .int .i64 d.no, .bool d.rs, .bool d.et, .string d.pr, .slice p.a12 d.ex.length p.c12, .slice p.a13 d.tr.length p.c13, .slice p.a14 d.tk.length p.c14, .slice p.a15 d.pk.length p.c15, .slice p.a16 d.rn.length p.c16, .int .i64 d.gt, .int .i64 d.li, .string d.ho, .string d.sp, .int .i64 d.ea, .int .i64 d.wd, .slice p.a23 d.ms.length p.c23] [.int .i64 0, .slice none 0 0, .slice none 0 0, .slice none 0 0, .int .i64 0, .int .i64 0, .int .i64 0, .int .i64 0, .int .i64 0, .bool false, .bool false, .string ⟨#[]⟩, .slice none 0 0, .slice none 0 0, .slice none 0 0, .slice none 0 0, .slice none 0 0, .int .i64 0, .int .i64 0, .string ⟨#[]⟩, .string ⟨#[]⟩, .int .i64 0, .int .i64 0, .slice none 0 0] [.int .i64 d.fa, .slice (some ⟨Pan, 0, none⟩) d.an.length d.an.length, .slice (some ⟨Pse, 0, none⟩) d.se.length d.se.length, .slice (some ⟨Pre, 0, none⟩) d.re.length d.re.length, .int .i64 d.er, .int .i64 d.ph, .int .i64 d.al, .int .i64 d.pa, .int .i64 d.no, .bool d.rs, .bool d.et, .string d.pr, .slice (some ⟨Pex, 0, none⟩) d.ex.length d.ex.length, .slice (some ⟨Ptr, 0, none⟩) d.tr.length d.tr.length, .slice (some ⟨Ptk, 0, none⟩) d.tk.length d.tk.length, .slice (some ⟨Ppk, 0, none⟩) d.pk.length d.pk.length, .slice (some ⟨Prn, 0, none⟩) d.rn.length d.rn.length, .int .i64 d.gt, .int .i64 d.li, .string d.ho, .string d.sp, .int .i64 d.ea, .int .i64 0, .slice none 0 0] := T2.sets 14 [.slice (some ⟨Ptk, 0, none⟩) d.tk.length d.tk.length, .slice (some ⟨Ppk, 0, none⟩) d.pk.length d.pk.length, .slice (some ⟨Prn, 0, none⟩) d.rn.length d.rn.length, .int .i64 d.gt, .int .i64 d.li, .string d.ho, .string d.sp, .int .i64 d.ea]
  replace Fan := Fan.onl (only_setG V14 (w.heap.size + 1 + 1) [.slice (some ⟨Ptk, 0, none⟩) d.tk.length d.tk.length, .slice (some ⟨Ppk, 0, none⟩) d.pk.length d.pk.length, .slice (some ⟨Prn, 0, none⟩) d.rn.length d.rn.length, .int .i64 d.gt, .int .i64 d.li, .string d.ho, .string d.sp, .int .i64 d.ea] 14) (by omega)
  replace Fse := Fse.onl (only_setG V14 (w.heap.size + 1 + 1) [.slice (some ⟨Ptk, 0, none⟩) d.tk.length d.tk.length, .slice (some ⟨Ppk, 0, none⟩) d.pk.length d.pk.length, .slice (some ⟨Prn, 0, none⟩) d.rn.length d.rn.length, .int .i64 d.gt, .int .i64 d.li, .string d.ho, .string d.sp, .int .i64 d.ea] 14) (by omega)
  replace Fre := Fre.onl (only_setG V14 (w.heap.size + 1 + 1) [.slice (some ⟨Ptk, 0, none⟩) d.tk.length d.tk.length, .slice (some ⟨Ppk, 0, none⟩) d.pk.length d.pk.length, .slice (some ⟨Prn, 0, none⟩) d.rn.length d.rn.length, .int .i64 d.gt, .int .i64 d.li, .string d.ho, .string d.sp, .int .i64 d.ea] 14) (by omega)
  replace Fex := Fex.onl (only_setG V14 (w.heap.size + 1 + 1) [.slice (some ⟨Ptk, 0, none⟩) d.tk.length d.tk.length, .slice (some ⟨Ppk, 0, none⟩) d.pk.length d.pk.length, .slice (some ⟨Prn, 0, none⟩) d.rn.length d.rn.length, .int .i64 d.gt, .int .i64 d.li, .string d.ho, .string d.sp, .int .i64 d.ea] 14) (by omega)
  replace Ftr := Ftr.onl (only_setG V14 (w.heap.size + 1 + 1) [.slice (some ⟨Ptk, 0, none⟩) d.tk.length d.tk.length, .slice (some ⟨Ppk, 0, none⟩) d.pk.length d.pk.length, .slice (some ⟨Prn, 0, none⟩) d.rn.length d.rn.length, .int .i64 d.gt, .int .i64 d.li, .string d.ho, .string d.sp, .int .i64 d.ea] 14) (by omega)
  replace Ftk := Ftk.onl (only_setG V14 (w.heap.size + 1 + 1) [.slice (some ⟨Ptk, 0, none⟩) d.tk.length d.tk.length, .slice (some ⟨Ppk, 0, none⟩) d.pk.length d.pk.length, .slice (some ⟨Prn, 0, none⟩) d.rn.length d.rn.length, .int .i64 d.gt, .int .i64 d.li, .string d.ho, .string d.sp, .int .i64 d.ea] 14) (by omega)
  replace Fpk := Fpk.onl (only_setG V14 (w.heap.size + 1 + 1) [.slice (some ⟨Ptk, 0, none⟩) d.tk.length d.tk.length, .slice (some ⟨Ppk, 0, none⟩) d.pk.length d.pk.length, .slice (some ⟨Prn, 0, none⟩) d.rn.length d.rn.length, .int .i64 d.gt, .int .i64 d.li, .string d.ho, .string d.sp, .int .i64 d.ea] 14) (by omega)
  replace Frn := Frn.onl (only_setG V14 (w.heap.size + 1 + 1) [.slice (some ⟨Ptk, 0, none⟩) d.tk.length d.tk.length, .slice (some ⟨Ppk, 0, none⟩) d.pk.length d.pk.length, .slice (some ⟨Prn, 0, none⟩) d.rn.length d.rn.length, .int .i64 d.gt, .int .i64 d.li, .string d.ho, .string d.sp, .int .i64 d.ea] 14) (by omega)
  go_upto_region 17 with (first | (refine wpList_store_mid rfl 35 (.tmp 54) (.tmp 53) rfl (w.heap.size + 1 + 1) 14 #[.slice (some ⟨Ptk, 0, none⟩) d.tk.length d.tk.length, .slice (some ⟨Ppk, 0, none⟩) d.pk.length d.pk.length, .slice (some ⟨Prn, 0, none⟩) d.rn.length d.rn.length, .int .i64 d.gt, .int .i64 d.li, .string d.ho, .string d.sp, .int .i64 d.ea] rfl rfl qT iSv ON ?_) | fail)
  clear T2 qT ON lt dM hdM hrM
  generalize V14.setCells (w.heap.size + 1 + 1) 14 [.slice (some ⟨Ptk, 0, none⟩) d.tk.length d.tk.length, .slice (some ⟨Ppk, 0, none⟩) d.pk.length d.pk.length, .slice (some ⟨Prn, 0, none⟩) d.rn.length d.rn.length, .int .i64 d.gt, .int .i64 d.li, .string d.ho, .string d.sp, .int .i64 d.ea] = X15 at *
  have T0 := T3
  clear T3
  have qS := T0.S.part 22 [.int .i64 d.wd, .slice p.a23 d.ms.length p.c23] rfl
  obtain ⟨dL, hdL, hrL⟩ := rowLWd
  obtain ⟨dM, hdM, hrM⟩ := rowWd
  have TB := hide (toWindow_any X15 d.wd p.g23 p.a23 p.c23 d.ms p.pl (h.ms.up T0.N) k.ms k.mz)
  go_wp2_with (first | (refine wpList_load_mid rfl 28 (.tmp 55) rfl w.heap.size 22 rfl [.int .i64 d.wd, .slice p.a23 d.ms.length p.c23] dL qS hdL hrL iLWd ?_) | fail)
  refine TB.out.mono ?_
  rintro e V15 ⟨Pms, Pqs, rfl, Fms, m⟩
  have lt := T0.T.lt
  have T2 := T0.up m
  replace Fan := Fan.up m
  replace Fse := Fse.up m
  replace Fre := Fre.up m
  replace Fex := Fex.up m
  replace Ftr := Ftr.up m
  replace Ftk := Ftk.up m
  replace Fpk := Fpk.up m
  replace Frn := Frn.up m
  replace Fms := Fms.mono (show (w.heap.size + 1 + 1 + 1) ≤ _ by omega)
  clear TB qS T0 m dL hdL hrL
  have qT : V15.there (w.heap.size + 1 + 1) 22 2 := T2.T.tpart 22 2 (by simp)
  have ON := oneWd d.wd (some ⟨Pms, 0, none⟩) d.ms.length d.ms.length
  have T3 : TMs w (V15.setCells (w.heap.size + 1 + 1) 22 [.int .i64 d.wd, .slice (some ⟨Pms, 0, none⟩) d.ms.length d.ms.length]) 30 40 [.int .i64 d.fa, .slice p.a1 d.an.length p.c1, .slice p.a2 d.se.length p.c2, .slice p.a3 d.re.length p.c3, .int .i64 d.er, .int .i64 d.ph, .int .i64 d.al, .int .i64 d.pa, .int .i64 d.no, .bool d.rs, .bool d.et, .string d.pr, .slice p.a12 d.ex.length p.c12, .slice p.a13 d.tr.length p.c13, .slice p.a14 d.tk.length p.c14, .slice p.a15 d.pk.length p.c15, .slice p.a16 d.rn.length p.c16, .int .i64 d.gt, .int .i64 d.li, .string d.ho, .string d.sp, .int .i64 d.ea, .int .i64 d.wd, .slice p.a23 d.ms.length p.c23] [.int .i64 0, .slice none 0 0, .slice none 0 0, .slice none 0 0, .int .i64 0, .int .i64 0, .int .i64 0, .int .i64 0, .int .i64 0, .bool false, .bool false, .string ⟨#[]⟩, .slice none 0 0, .slice none 0 0, .slice none 0 0, .slice none 0 0, .slice none 0 0, .int .i64 0, .int .i64 0, .string ⟨#[]⟩, .string ⟨#[]⟩, .int .i64 0, .int .i64 0, .slice none 0 0] [.int .i64 d.fa, .slice (some ⟨Pan, 0, none⟩) d.an.length d.an.length, .slice (some ⟨Pse, 0, none⟩) d.se.length d.se.length, .slice (some ⟨Pre, 0, none⟩) d.re.length d.re.length, .int .i64 d.er, .int .i64 d.ph, .int .i64 d.al, .int .i64 d.pa, .int .i64 d.no, .bool d.rs, .bool d.et, .string d.pr, .slice (some ⟨Pex, 0, none⟩) d.ex.length d.ex.length, .slice (some ⟨Ptr, 0, none⟩) d.tr.length d.tr.length, .slice (some ⟨Ptk, 0, none⟩) d.tk.length d.tk.length, .slice (some ⟨Ppk, 0, none⟩) d.pk.length d.pk.length, .slice (some ⟨Prn, 0, none⟩) d.rn.length d.rn.length, .int .i64 d.gt, .int .i64 d.li, .string d.ho, .string d.sp, .int .i64 d.ea, .int .i64 d.wd, .slice (some ⟨Pms, 0, none⟩) d.ms.length d.ms.length] := T2.sets 22 [.int .i64 d.wd, .slice (some ⟨Pms, 0, none⟩) d.ms.length d.ms.length]
  replace Fan := Fan.onl (only_setG V15 (w.heap.size + 1 + 1) [.int .i64 d.wd, .slice (some ⟨Pms, 0, none⟩) d.ms.length d.ms.length] 22) (by omega)
  replace Fse := Fse.onl (only_setG V15 (w.heap.size + 1 + 1) [.int .i64 d.wd, .slice (some ⟨Pms, 0, none⟩) d.ms.length d.ms.length] 22) (by omega)
  replace Fre := Fre.onl (only_setG V15 (w.heap.size + 1 + 1) [.int .i64 d.wd, .slice (some ⟨Pms, 0, none⟩) d.ms.length d.ms.length] 22) (by omega)
  replace Fex := Fex.onl (only_setG V15 (w.heap.size + 1 + 1) [.int .i64 d.wd, .slice (some ⟨Pms, 0, none⟩) d.ms.length d.ms.length] 22) (by omega)
  replace Ftr := Ftr.onl (only_setG V15 (w.heap.size + 1 + 1) [.int .i64 d.wd, .slice (some ⟨Pms, 0, none⟩) d.ms.length d.ms.length] 22) (by omega)
  replace Ftk := Ftk.onl (only_setG V15 (w.heap.size + 1 + 1) [.int .i64 d.wd, .slice (some ⟨Pms, 0, none⟩) d.ms.length d.ms.length] 22) (by omega)
  replace Fpk := Fpk.onl (only_setG V15 (w.heap.size + 1 + 1) [.int .i64 d.wd, .slice (some ⟨Pms, 0, none⟩) d.ms.length d.ms.length] 22) (by omega)
  replace Frn := Frn.onl (only_setG V15 (w.heap.size + 1 + 1) [.int .i64 d.wd, .slice (some ⟨Pms, 0, none⟩) d.ms.length d.ms.length] 22) (by omega)
  replace Fms := Fms.onl (only_setG V15 (w.heap.size + 1 + 1) [.int .i64 d.wd, .slice (some ⟨Pms, 0, none⟩) d.ms.length d.ms.length] 22) (by omega)
  go_upto_region 18 with (first | (refine wpList_store_mid rfl 38 (.tmp 58) (.tmp 57) rfl (w.heap.size + 1 + 1) 22 #[.int .i64 d.wd, .slice (some ⟨Pms, 0, none⟩) d.ms.length d.ms.length] rfl rfl qT iWd ON ?_) | fail)
  clear T2 qT ON lt dM hdM hrM
  generalize V15.setCells (w.heap.size + 1 + 1) 22 [.int .i64 d.wd, .slice (some ⟨Pms, 0, none⟩) d.ms.length d.ms.length] = X16 at *
  have T0 := T3
  clear T3
  have RG := T0.T.rangeG
  have TH := T0.U.thereG
  have RR := World.rangeAt_setCells_same X16 (w.heap.size + 1) 0 [.int .i64 d.fa, .slice (some ⟨Pan, 0, none⟩) d.an.length d.an.length, .slice (some ⟨Pse, 0, none⟩) d.se.length d.se.length, .slice (some ⟨Pre, 0, none⟩) d.re.length d.re.length, .int .i64 d.er, .int .i64 d.ph, .int .i64 d.al, .int .i64 d.pa, .int .i64 d.no, .bool d.rs, .bool d.et, .string d.pr, .slice (some ⟨Pex, 0, none⟩) d.ex.length d.ex.length, .slice (some ⟨Ptr, 0, none⟩) d.tr.length d.tr.length, .slice (some ⟨Ptk, 0, none⟩) d.tk.length d.tk.length, .slice (some ⟨Ppk, 0, none⟩) d.pk.length d.pk.length, .slice (some ⟨Prn, 0, none⟩) d.rn.length d.rn.length, .int .i64 d.gt, .int .i64 d.li, .string d.ho, .string d.sp, .int .i64 d.ea, .int .i64 d.wd, .slice (some ⟨Pms, 0, none⟩) d.ms.length d.ms.length] TH
  have OQ := only_setG X16 (w.heap.size + 1) [.int .i64 d.fa, .slice (some ⟨Pan, 0, none⟩) d.an.length d.an.length, .slice (some ⟨Pse, 0, none⟩) d.se.length d.se.length, .slice (some ⟨Pre, 0, none⟩) d.re.length d.re.length, .int .i64 d.er, .int .i64 d.ph, .int .i64 d.al, .int .i64 d.pa, .int .i64 d.no, .bool d.rs, .bool d.et, .string d.pr, .slice (some ⟨Pex, 0, none⟩) d.ex.length d.ex.length, .slice (some ⟨Ptr, 0, none⟩) d.tr.length d.tr.length, .slice (some ⟨Ptk, 0, none⟩) d.tk.length d.tk.length, .slice (some ⟨Ppk, 0, none⟩) d.pk.length d.pk.length, .slice (some ⟨Prn, 0, none⟩) d.rn.length d.rn.length, .int .i64 d.gt, .int .i64 d.li, .string d.ho, .string d.sp, .int .i64 d.ea, .int .i64 d.wd, .slice (some ⟨Pms, 0, none⟩) d.ms.length d.ms.length] 0
  have N8 : Hid (Below w.heap.size w (X16.setCells (w.heap.size + 1) 0 [.int .i64 d.fa, .slice (some ⟨Pan, 0, none⟩) d.an.length d.an.length, .slice (some ⟨Pse, 0, none⟩) d.se.length d.se.length, .slice (some ⟨Pre, 0, none⟩) d.re.length d.re.length, .int .i64 d.er, .int .i64 d.ph, .int .i64 d.al, .int .i64 d.pa, .int .i64 d.no, .bool d.rs, .bool d.et, .string d.pr, .slice (some ⟨Pex, 0, none⟩) d.ex.length d.ex.length, .slice (some ⟨Ptr, 0, none⟩) d.tr.length d.tr.length, .slice (some ⟨Ptk, 0, none⟩) d.tk.length d.tk.length, .slice (some ⟨Ppk, 0, none⟩) d.pk.length d.pk.length, .slice (some ⟨Prn, 0, none⟩) d.rn.length d.rn.length, .int .i64 d.gt, .int .i64 d.li, .string d.ho, .string d.sp, .int .i64 d.ea, .int .i64 d.wd, .slice (some ⟨Pms, 0, none⟩) d.ms.length d.ms.length])) := T0.N.trans (OQ.below (by omega))
  have DFan := hide ((Fan.onl OQ (by omega)).mono (show w.heap.size ≤ _ by omega))
  have DFse := hide ((Fse.onl OQ (by omega)).mono (show w.heap.size ≤ _ by omega))
  have DFre := hide ((Fre.onl OQ (by omega)).mono (show w.heap.size ≤ _ by omega))
  have DFex := hide ((Fex.onl OQ (by omega)).mono (show w.heap.size ≤ _ by omega))
  have DFtr := hide ((Ftr.onl OQ (by omega)).mono (show w.heap.size ≤ _ by omega))
  have DFtk := hide ((Ftk.onl OQ (by omega)).mono (show w.heap.size ≤ _ by omega))
  have DFpk := hide ((Fpk.onl OQ (by omega)).mono (show w.heap.size ≤ _ by omega))
  have DFrn := hide ((Frn.onl OQ (by omega)).mono (show w.heap.size ≤ _ by omega))
  have DFms := hide ((Fms.onl OQ (by omega)).mono (show w.heap.size ≤ _ by omega))
  have ON := oneEr ⟨some ⟨Pan, 0, none⟩, d.an.length, Pan, some ⟨Pse, 0, none⟩, d.se.length, Pse, some ⟨Pre, 0, none⟩, d.re.length, Pre, some ⟨Pex, 0, none⟩, d.ex.length, Pex, some ⟨Ptr, 0, none⟩, d.tr.length, Ptr, some ⟨Ptk, 0, none⟩, d.tk.length, Ptk, some ⟨Ppk, 0, none⟩, d.pk.length, Ppk, some ⟨Prn, 0, none⟩, d.rn.length, Prn, some ⟨Pms, 0, none⟩, d.ms.length, Pms, Pqs⟩ d
  clear OQ T0 Fan Fse Fre Fex Ftr Ftk Fpk Frn Fms
  go_wp2_with (first
    | (refine wpList_load_mid rfl 40 (.tmp 3) rfl (w.heap.size + 1 + 1) 0 rfl [.int .i64 d.fa, .slice (some ⟨Pan, 0, none⟩) d.an.length d.an.length, .slice (some ⟨Pse, 0, none⟩) d.se.length d.se.length, .slice (some ⟨Pre, 0, none⟩) d.re.length d.re.length, .int .i64 d.er, .int .i64 d.ph, .int .i64 d.al, .int .i64 d.pa, .int .i64 d.no, .bool d.rs, .bool d.et, .string d.pr, .slice (some ⟨Pex, 0, none⟩) d.ex.length d.ex.length, .slice (some ⟨Ptr, 0, none⟩) d.tr.length d.tr.length, .slice (some ⟨Ptk, 0, none⟩) d.tk.length d.tk.length, .slice (some ⟨Ppk, 0, none⟩) d.pk.length d.pk.length, .slice (some ⟨Prn, 0, none⟩) d.rn.length d.rn.length, .int .i64 d.gt, .int .i64 d.li, .string d.ho, .string d.sp, .int .i64 d.ea, .int .i64 d.wd, .slice (some ⟨Pms, 0, none⟩) d.ms.length d.ms.length] d1 RG hd1 hrow1 iEr ?_)
    | (refine wpList_store_mid rfl 40 (.tmp 2) (.tmp 59) rfl (w.heap.size + 1) 0 #[.int .i64 d.fa, .slice (some ⟨Pan, 0, none⟩) d.an.length d.an.length, .slice (some ⟨Pse, 0, none⟩) d.se.length d.se.length, .slice (some ⟨Pre, 0, none⟩) d.re.length d.re.length, .int .i64 d.er, .int .i64 d.ph, .int .i64 d.al, .int .i64 d.pa, .int .i64 d.no, .bool d.rs, .bool d.et, .string d.pr, .slice (some ⟨Pex, 0, none⟩) d.ex.length d.ex.length, .slice (some ⟨Ptr, 0, none⟩) d.tr.length d.tr.length, .slice (some ⟨Ptk, 0, none⟩) d.tk.length d.tk.length, .slice (some ⟨Ppk, 0, none⟩) d.pk.length d.pk.length, .slice (some ⟨Prn, 0, none⟩) d.rn.length d.rn.length, .int .i64 d.gt, .int .i64 d.li, .string d.ho, .string d.sp, .int .i64 d.ea, .int .i64 d.wd, .slice (some ⟨Pms, 0, none⟩) d.ms.length d.ms.length] rfl rfl ?hth ?hin ?hon ?_))
  case hth => exact TH
  case hin => exact iEr
  case hon => exact ON
  exact bodyPost_ret (v := .agg #[.int .i64 d.fa, .slice (some ⟨Pan, 0, none⟩) d.an.length d.an.length, .slice (some ⟨Pse, 0, none⟩) d.se.length d.se.length, .slice (some ⟨Pre, 0, none⟩) d.re.length d.re.length, .int .i64 d.er, .int .i64 d.ph, .int .i64 d.al, .int .i64 d.pa, .int .i64 d.no, .bool d.rs, .bool d.et, .string d.pr, .slice (some ⟨Pex, 0, none⟩) d.ex.length d.ex.length, .slice (some ⟨Ptr, 0, none⟩) d.tr.length d.tr.length, .slice (some ⟨Ptk, 0, none⟩) d.tk.length d.tk.length, .slice (some ⟨Ppk, 0, none⟩) d.pk.length d.pk.length, .slice (some ⟨Prn, 0, none⟩) d.rn.length d.rn.length, .int .i64 d.gt, .int .i64 d.li, .string d.ho, .string d.sp, .int .i64 d.ea, .int .i64 d.wd, .slice (some ⟨Pms, 0, none⟩) d.ms.length d.ms.length]) (results_cellG Try.results14 _ _ (w.heap.size + 1) _ d1 rfl RR hd1 hrow1 iEr) rfl ⟨⟨some ⟨Pan, 0, none⟩, d.an.length, Pan, some ⟨Pse, 0, none⟩, d.se.length, Pse, some ⟨Pre, 0, none⟩, d.re.length, Pre, some ⟨Pex, 0, none⟩, d.ex.length, Pex, some ⟨Ptr, 0, none⟩, d.tr.length, Ptr, some ⟨Ptk, 0, none⟩, d.tk.length, Ptk, some ⟨Ppk, 0, none⟩, d.pk.length, Ppk, some ⟨Prn, 0, none⟩, d.rn.length, Prn, some ⟨Pms, 0, none⟩, d.ms.length, Pms, Pqs⟩, rfl, ⟨DFan.out.rd, DFan.out.lo, DFse.out.rd, DFse.out.lo, DFre.out.rd, DFre.out.lo, DFex.out.rd, DFex.out.lo, DFtr.out.rd, DFtr.out.lo, DFtk.out.rd, DFtk.out.lo, DFpk.out.rd, DFpk.out.lo, DFrn.out.rd, DFrn.out.lo, DFms.out.rd, DFms.out.lo, DFms.out.los⟩, N8.out⟩
end Go.Proofs.Ytinmgccnplcakaa
