
/-
  Windows and the report of an end, copied (written by gens/kmd.py).
-/
import Derived.Test.YtggclncbcdjnjaaKmC
namespace Go.Proofs.Ytggclncbcdjnjaa
open Go Go.RowKit

theorem CpS.mono {b b' : Nat} {W : World} {p : Nat} {k : IntKind} {xs : List Int} (h : CpS b W p k xs) (l : b' ≤ b) : CpS b' W p k xs := ⟨h.rd, Nat.le_trans l h.lo⟩
theorem CpK.mono {b b' : Nat} {W : World} {p : Nat} {ms : List Mrk} {ps : List Plm} (h : CpK b W p ms ps) (l : b' ≤ b) : CpK b' W p ms ps := ⟨h.rd, Nat.le_trans l h.lo, fun i hi => Nat.le_trans l (h.los i hi)⟩
theorem cpByteS (w : World) (g : Nat) (a : Option Addr) (c : Nat) (xs : List Int) (hr : Rd w g a .u8 xs) (hn : xs.length ≤ 1048576) :
    Calls Try.prog 21 #[.slice a xs.length c] w fun e w' => ∃ p, e = .returned (.slice (some ⟨p, 0, none⟩) xs.length xs.length) ∧ CpS w.heap.size w' p .u8 xs ∧ Below w.heap.size w w' :=
  (toByteS_any w g a c xs hr hn).mono (by rintro e w' ⟨rfl, B, n⟩; exact ⟨_, rfl, CpS.of B (Nat.le_refl _), n⟩)
theorem cpMarkS (w : World) (g : Nat) (a : Option Addr) (c : Nat) (ms : List Mrk) (ps : List Plm) (hr : RdK w g a ms ps) (hn : ms.length ≤ 1048576) (hz : ∀ i, i < ms.length → (ms.getD i mrk0).id.length ≤ 1048576) :
    Calls Try.prog 11 #[.slice a ms.length c] w fun e w' => ∃ p qs, e = .returned (.slice (some ⟨p, 0, none⟩) ms.length ms.length) ∧ CpK w.heap.size w' p ms qs ∧ Below w.heap.size w w' :=
  (toMarkS_any w g a c ms ps hr hn hz).mono (by rintro e w' ⟨⟨rfl, qs, R, l⟩, n⟩; exact ⟨_, qs, rfl, ⟨R, Nat.le_refl _, fun i hi => Nat.le_of_lt (l i hi)⟩, n⟩)
set_option maxRecDepth 100000 in
set_option maxHeartbeats 16000000 in
theorem toWindow_any (w : World) (wd : Int) (g : Nat) (a : Option Addr) (c : Nat) (ms : List Mrk) (ps : List Plm) (hr : RdK w g a ms ps) (hn : ms.length ≤ 1048576) (hz : ∀ i, i < ms.length → (ms.getD i mrk0).id.length ≤ 1048576) :
    Calls Try.prog 6 #[.agg #[.int .i64 wd, .slice a ms.length c]] w fun e w' => ∃ p qs, e = .returned (.agg #[.int .i64 wd, .slice (some ⟨p, 0, none⟩) ms.length ms.length]) ∧ CpK w.heap.size w' p ms qs ∧ Below w.heap.size w w' := by
  have T0 := TMs.new w 24 29 [.int .i64 wd, .slice a ms.length c] [.int .i64 0, .slice none 0 0]
  obtain ⟨d1, hd1, hrow1⟩ := rowWd
  go_enter Try.func6, Try.ntmps6
  go_upto_region 2 with fail
  have T0 : TMs w (((w.alloc (.cells #[.int .i64 wd, .slice a ms.length c] 24)).alloc (.cells #[.int .i64 0, .slice none 0 0] 29)).alloc (.cells #[.int .i64 0, .slice none 0 0] 29)) 24 29 [.int .i64 wd, .slice a ms.length c] [.int .i64 0, .slice none 0 0] [.int .i64 0, .slice none 0 0] := T0
  generalize ((w.alloc (.cells #[.int .i64 wd, .slice a ms.length c] 24)).alloc (.cells #[.int .i64 0, .slice none 0 0] 29)).alloc (.cells #[.int .i64 0, .slice none 0 0] 29) = X0 at *
  have q0 : X0.cell? ⟨w.heap.size, 0, none⟩ = some (.int .i64 wd) := T0.S.cell 0
  have q1 : X0.cell? ⟨w.heap.size + 1 + 1, 0, none⟩ = some (.int .i64 0) := T0.T.cell 0
  have q2 := T0.T.free 0
  have T6 : TMs w (X0.setCell ⟨w.heap.size + 1 + 1, 0, none⟩ (.int .i64 wd)) 24 29 [.int .i64 wd, .slice a ms.length c] [.int .i64 0, .slice none 0 0] [.int .i64 wd, .slice none 0 0] := T0.set 0 _
  go_upto_region 3 with fail
  clear q0 q1 q2 T0
  generalize X0.setCell ⟨w.heap.size + 1 + 1, 0, none⟩ (.int .i64 wd) = X1 at *
  have T0 := T6
  clear T6
  have qS : X1.cell? ⟨w.heap.size, 1, none⟩ = some (.slice a ms.length c) := T0.S.cell 1
  have TB := hide (cpMarkS X1 g a c ms ps (hr.up T0.N) hn hz)
  go_wp2_with fail
  refine TB.out.mono ?_
  rintro e V1 ⟨p, qs, rfl, K, m⟩
  have lt := T0.T.lt
  have T2 := T0.up m
  replace K := K.mono (show (w.heap.size + 1 + 1 + 1) ≤ _ by omega)
  clear TB qS T0 m
  have qT : V1.cell? ⟨w.heap.size + 1 + 1, 1, none⟩ = some (.slice none 0 0) := T2.T.cell 1
  have qF := T2.T.free 1
  have T3 : TMs w (V1.setCell ⟨w.heap.size + 1 + 1, 1, none⟩ (.slice (some ⟨p, 0, none⟩) ms.length ms.length)) 24 29 [.int .i64 wd, .slice a ms.length c] [.int .i64 0, .slice none 0 0] [.int .i64 wd, .slice (some ⟨p, 0, none⟩) ms.length ms.length] := T2.set 1 _
  replace K := K.onl (Only.setCell V1 (w.heap.size + 1 + 1) 1 (.slice (some ⟨p, 0, none⟩) ms.length ms.length)) (by omega)
  go_upto_region 4 with fail
  clear T2 qT qF lt
  generalize V1.setCell ⟨w.heap.size + 1 + 1, 1, none⟩ (.slice (some ⟨p, 0, none⟩) ms.length ms.length) = X2 at *
  have T0 := T3
  clear T3
  have RG := T0.T.rangeG
  have TH := T0.U.thereG
  have RR := World.rangeAt_setCells_same X2 (w.heap.size + 1) 0 [.int .i64 wd, .slice (some ⟨p, 0, none⟩) ms.length ms.length] TH
  have OQ := only_setG X2 (w.heap.size + 1) [.int .i64 wd, .slice (some ⟨p, 0, none⟩) ms.length ms.length] 0
  have N8 : Hid (Below w.heap.size w (X2.setCells (w.heap.size + 1) 0 [.int .i64 wd, .slice (some ⟨p, 0, none⟩) ms.length ms.length])) := T0.N.trans (OQ.below (by omega))
  have DK := hide ((K.onl OQ (by omega)).mono (show w.heap.size ≤ _ by omega))
  have ON := oneWd wd (some ⟨p, 0, none⟩) ms.length ms.length
  clear OQ T0 K
  go_wp2_with (first
    | (refine wpList_load_mid rfl 29 (.tmp 3) rfl (w.heap.size + 1 + 1) 0 rfl [.int .i64 wd, .slice (some ⟨p, 0, none⟩) ms.length ms.length] d1 RG hd1 hrow1 iWd ?_)
    | (refine wpList_store_mid rfl 29 (.tmp 2) (.tmp 11) rfl (w.heap.size + 1) 0 #[.int .i64 wd, .slice (some ⟨p, 0, none⟩) ms.length ms.length] rfl rfl ?hth ?hin ?hon ?_))
  case hth => exact TH
  case hin => exact iWd
  case hon => exact ON
  exact bodyPost_ret (v := .agg #[.int .i64 wd, .slice (some ⟨p, 0, none⟩) ms.length ms.length]) (results_cellG Try.results6 _ _ (w.heap.size + 1) _ d1 rfl RR hd1 hrow1 iWd) rfl ⟨p, qs, rfl, DK.out, N8.out⟩
/-- The report of an end as data. -/
structure ED where
  fa : Int
  an : List Int
  se : List Int
  re : List Int
  er : Int
  ph : Int
  al : Int
  pa : Int
  no : Int
  rs : Bool
  et : Bool
  pr : ByteArray
  ex : List Int
  tr : List Int
  tk : List Int
  pk : List Int
  rn : List Int
  gt : Int
  li : Int
  ho : ByteArray
  sp : ByteArray
  ea : Int
  wd : Int
  ms : List Mrk
/-- Where it lies. -/
structure EA where
  a1 : Option Addr
  c1 : Nat
  g1 : Nat
  a2 : Option Addr
  c2 : Nat
  g2 : Nat
  a3 : Option Addr
  c3 : Nat
  g3 : Nat
  a12 : Option Addr
  c12 : Nat
  g12 : Nat
  a13 : Option Addr
  c13 : Nat
  g13 : Nat
  a14 : Option Addr
  c14 : Nat
  g14 : Nat
  a15 : Option Addr
  c15 : Nat
  g15 : Nat
  a16 : Option Addr
  c16 : Nat
  g16 : Nat
  a23 : Option Addr
  c23 : Nat
  g23 : Nat
  pl : List Plm
/-- It may be read, and all of it lies at b or above. -/
structure HasE (b : Nat) (W : World) (p : EA) (d : ED) : Prop where
  an : Rd W p.g1 p.a1 .i64 d.an
  ban : b ≤ p.g1
  se : Rd W p.g2 p.a2 .u8 d.se
  bse : b ≤ p.g2
  re : Rd W p.g3 p.a3 .u8 d.re
  bre : b ≤ p.g3
  ex : Rd W p.g12 p.a12 .u8 d.ex
  bex : b ≤ p.g12
  tr : Rd W p.g13 p.a13 .u8 d.tr
  btr : b ≤ p.g13
  tk : Rd W p.g14 p.a14 .u8 d.tk
  btk : b ≤ p.g14
  pk : Rd W p.g15 p.a15 .u8 d.pk
  bpk : b ≤ p.g15
  rn : Rd W p.g16 p.a16 .u8 d.rn
  brn : b ≤ p.g16
  ms : RdK W p.g23 p.a23 d.ms p.pl
  bms : b ≤ p.g23
  bps : ∀ i, i < d.ms.length → b ≤ (p.pl.getD i plm0).q
theorem HasE.up {b : Nat} {W W' : World} {p : EA} {d : ED} (h : HasE b W p d) (n : Below W.heap.size W W') : HasE b W' p d := ⟨h.an.up n, h.ban, h.se.up n, h.bse, h.re.up n, h.bre, h.ex.up n, h.bex, h.tr.up n, h.btr, h.tk.up n, h.btk, h.pk.up n, h.bpk, h.rn.up n, h.brn, h.ms.up n, h.bms, h.bps⟩
theorem HasE.mono {b b' : Nat} {W : World} {p : EA} {d : ED} (h : HasE b W p d) (l : b' ≤ b) : HasE b' W p d := ⟨h.an, Nat.le_trans l h.ban, h.se, Nat.le_trans l h.bse, h.re, Nat.le_trans l h.bre, h.ex, Nat.le_trans l h.bex, h.tr, Nat.le_trans l h.btr, h.tk, Nat.le_trans l h.btk, h.pk, Nat.le_trans l h.bpk, h.rn, Nat.le_trans l h.brn, h.ms, Nat.le_trans l h.bms, fun i hi => Nat.le_trans l (h.bps i hi)⟩
theorem HasE.onl {b q : Nat} {W W' : World} {p : EA} {d : ED} (h : HasE b W p d) (O : Only q W W') (hq : q < b) : HasE b W' p d := ⟨h.an.onlK O (by have := h.ban; omega), h.ban, h.se.onlK O (by have := h.bse; omega), h.bse, h.re.onlK O (by have := h.bre; omega), h.bre, h.ex.onlK O (by have := h.bex; omega), h.bex, h.tr.onlK O (by have := h.btr; omega), h.btr, h.tk.onlK O (by have := h.btk; omega), h.btk, h.pk.onlK O (by have := h.bpk; omega), h.bpk, h.rn.onlK O (by have := h.brn; omega), h.brn, h.ms.onl O (by have := h.bms; omega) (fun i hi => by have := h.bps i hi; omega), h.bms, h.bps⟩
/-- No list of it is too long. -/
structure OkE (d : ED) : Prop where
  an : d.an.length ≤ 1048576
  se : d.se.length ≤ 1048576
  re : d.re.length ≤ 1048576
  ex : d.ex.length ≤ 1048576
  tr : d.tr.length ≤ 1048576
  tk : d.tk.length ≤ 1048576
  pk : d.pk.length ≤ 1048576
  rn : d.rn.length ≤ 1048576
  ms : d.ms.length ≤ 1048576
  mz : ∀ i, i < d.ms.length → (d.ms.getD i mrk0).id.length ≤ 1048576
theorem iLWd : (Try.prog.info? 24).map (·.size) = some 2 := by kernel_rfl
theorem rowLWd : ∃ d, Try.prog.underlying 24 = some d ∧ d.isRow = true := ⟨_, Try.underlying24, rfl⟩
/-- The cells of a report. -/
abbrev erL (p : EA) (d : ED) : List Value := [.int .i64 d.fa, .slice p.a1 d.an.length p.c1, .slice p.a2 d.se.length p.c2, .slice p.a3 d.re.length p.c3, .int .i64 d.er, .int .i64 d.ph, .int .i64 d.al, .int .i64 d.pa, .int .i64 d.no, .bool d.rs, .bool d.et, .string d.pr, .slice p.a12 d.ex.length p.c12, .slice p.a13 d.tr.length p.c13, .slice p.a14 d.tk.length p.c14, .slice p.a15 d.pk.length p.c15, .slice p.a16 d.rn.length p.c16, .int .i64 d.gt, .int .i64 d.li, .string d.ho, .string d.sp, .int .i64 d.ea, .int .i64 d.wd, .slice p.a23 d.ms.length p.c23]
theorem oneEr (p : EA) (d : ED) : (erL p d : List Value).toArray.all (·.oneCell') = true := all_oneCell_toArray fun v hv => by
  simp only [List.mem_cons, List.not_mem_nil, or_false] at hv
  rcases hv with rfl | rfl | rfl | rfl | rfl | rfl | rfl | rfl | rfl | rfl | rfl | rfl | rfl | rfl | rfl | rfl | rfl | rfl | rfl | rfl | rfl | rfl | rfl | rfl
  all_goals rfl
end Go.Proofs.Ytggclncbcdjnjaa
