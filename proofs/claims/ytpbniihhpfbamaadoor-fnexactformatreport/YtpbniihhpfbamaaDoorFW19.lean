import Derived.Test.YtpbniihhpfbamaaDoorFW18

/-
  The model's text of a world's report: a connection's round (written by gens/fqt2.py).
-/
namespace Go.Proofs.YtpbniihhpfbamaaDoor
set_option maxRecDepth 100000
open Go Go.RowKit

/-- A line appended. -/
theorem app_ln (w : World) (B : Nat) (v : Value) (l T : List UInt8) (hO : OwB B v l w) (hB : B ≤ w.heap.size) (hl : l.length ≤ 100000000000000) (hT : T.length ≤ 1000000000) :
    ∃ v' w', (Builtin.append_ #[23, 9] 23 #[v, .string ⟨⟨T⟩⟩]).run Tryd.prog w = .ok v' w' ∧ (∃ a n c, v' = .slice a n c) ∧ OwB B v' (l ++ T) w' ∧ Below B w w' := by
  obtain ⟨v', w', hap, ho, hg, -⟩ := app_str w B v l T hO hB (by omega)
  refine ⟨v', w', hap, ?_, ho, (Below.refl B w).grown hg hB fun k hk => (World.ownsRow.lt hO k hk).1⟩
  obtain ⟨a, c, e⟩ := OwB.slice (B := B) (l := l ++ T) ho
  exact ⟨a, _, c, e⟩
/-- The way's line: the calls, one in the other, and the append. -/
theorem way_chain (w : World) (B : Nat) (w1 : World) (g : Nat) (a : Option Addr) (c : Nat) (ts : List Int) (g' : Nat) (a' : Option Addr) (c' : Nat) (tc : List Int) (r : Rd w g a .u8 ts) (r' : Rd w g' a' .u8 tc) (bt : Byt ts) (bc : Byt tc) (h1 : ts.length ≤ 1048576) (h2 : tc.length ≤ 1048576) (v : Value) (l : List UInt8) (hO : OwB B v l w) (hB : B ≤ w1.heap.size) (N : Below w1.heap.size w1 w) (hl : l.length ≤ 100000000000000) :
    Calls Tryd.prog 15 #[.slice a ts.length c] w fun e w50 => ∃ T1, e = .returned (.string ⟨⟨T1⟩⟩) ∧ Hid (Below w1.heap.size w1 w50) ∧
    Calls Tryd.prog 15 #[.slice a' tc.length c'] w50 fun e w51 => ∃ T2, e = .returned (.string ⟨⟨T2⟩⟩) ∧ Hid (Below w1.heap.size w1 w51) ∧
    Calls Tryd.prog 12 #[.slice (some ⟨w51.heap.size, 0, none⟩) 3 3] (w51.alloc (.cells #[.string ⟨#[119, 97, 121]⟩, .string ⟨⟨T1⟩⟩, .string ⟨⟨T2⟩⟩] 9)) fun e w52 => ∃ T3, e = .returned (.string ⟨⟨T3⟩⟩) ∧ Hid (Below w1.heap.size w1 w52) ∧
    ∃ v' w6, (Builtin.append_ #[23, 9] 23 #[v, .string ⟨⟨T3⟩⟩]).run Tryd.prog w52 = .ok v' w6 ∧ (∃ a n c, v' = .slice a n c) ∧ Hid (OwB B v' (l ++ (waT ts tc ++ [10])) w6) ∧ Hid (Below B w1 w6) := by
  refine (specEncodeHex_any w g a c ts r bt h1).mono ?_
  rintro e x0 ⟨rfl, m0⟩
  have B0 := N.trans (m0.mono N.size)
  refine ⟨heT ts, rfl, B0, ?_⟩
  refine (specEncodeHex_any x0 g' a' c' tc (r'.up m0) bc h2).mono ?_
  rintro e x1 ⟨rfl, m1⟩
  have B1 := B0.trans (m1.mono B0.size)
  refine ⟨heT tc, rfl, B1, ?_⟩
  have m2 : Below x1.heap.size x1 (x1.alloc (.cells #[.string ⟨#[119, 97, 121]⟩, .string ⟨⟨heT ts⟩⟩, .string ⟨⟨heT tc⟩⟩] 9)) := (Below.refl _ _).alloc (Nat.le_refl _) _
  have B2 := B1.trans (m2.mono B1.size)
  have wl := waT_len h1 h2
  refine (l20Line_any _ x1.heap.size 3 [[119, 97, 121], heT ts, heT tc] (heap_alloc_new x1 _) rfl (by decide) (Nat.le_trans wl (by decide))).mono ?_
  rintro e x3 ⟨rfl, m3⟩
  have B3 := B2.trans (m3.mono B2.size)
  obtain ⟨v', w6, hap, hs, ho, nb⟩ := app_ln x3 B v l (waT ts tc ++ [10]) ((((hO.up m0).up m1).up m2).up m3) (Nat.le_trans hB B3.size) hl (by rw [List.length_append]; simp; omega)
  exact ⟨_, rfl, B3, v', w6, hap, hs, ho, (B3.mono hB).trans nb⟩
end Go.Proofs.YtpbniihhpfbamaaDoor

/-
  A text under way beside a box that is read.
-/
namespace Go.Proofs.YtpbniihhpfbamaaDoor
set_option maxRecDepth 100000
open Go Go.RowKit

theorem range_part {w : World} {b o n : Nat} {cs s : List Value} (h : w.rangeAt b 0 cs) (e : (cs.drop o).take n = s) : w.rangeAt b o s := by
  subst e
  intro j v hj
  have hj2 : cs[o + j]? = some v := by
    rw [List.getElem?_take] at hj
    split at hj
    · rwa [List.getElem?_drop] at hj
    · cases hj
  have := h (o + j) v hj2
  rwa [Nat.zero_add] at this
theorem range_one {w : World} {b k : Nat} {cs : List Value} {v : Value} (h : w.rangeAt b 0 cs) (e : cs[k]? = some v) : w.cell? ⟨b, k, none⟩ = some v := by
  have := h k v e
  rwa [Nat.zero_add] at this
/-- A text under way (`l`, behind `v`), and a box `q` with the cells `xa`. -/
structure Und (B q : Nat) (xa : List Value) (v : Value) (l : List UInt8) (w1 w : World) : Prop where
  own : OwB B v l w
  nb : Below B w1 w
  rg : w.rangeAt q 0 xa
  ne : v.ownBlock ≠ some q
  lt : q < w.heap.size
  lo : B ≤ w.heap.size
theorem Und.up {B q : Nat} {xa : List Value} {v : Value} {l : List UInt8} {w1 w w' : World} (U : Und B q xa v l w1 w) (n : Below w.heap.size w w') : Und B q xa v l w1 w' :=
  ⟨U.own.up n, U.nb.trans (n.mono U.lo), rangeQ U.rg n, U.ne, Nat.lt_of_lt_of_le U.lt n.size, Nat.le_trans U.lo n.size⟩
theorem Und.app {B q : Nat} {xa : List Value} {v : Value} {l : List UInt8} {w1 w : World} (U : Und B q xa v l w1 w) (T : List UInt8) (hl : l.length ≤ 100000000000000) (hT : T.length ≤ 1000000000) :
    ∃ v' w', (Builtin.append_ #[23, 9] 23 #[v, .string ⟨⟨T⟩⟩]).run Tryd.prog w = .ok v' w' ∧ (∃ a n c, v' = .slice a n c) ∧ Und B q xa v' (l ++ T) w1 w' := by
  obtain ⟨v', w', hap, ho, hg, hk⟩ := app_str w B v l T U.own U.lo (by omega)
  have nb : Below B w w' := (Below.refl B w).grown hg U.lo fun k hk => (World.ownsRow.lt U.own k hk).1
  refine ⟨v', w', hap, ?_, ho, U.nb.trans nb, fun j v hj => ?_, fun e => ?_, Nat.lt_of_lt_of_le U.lt hg.size, Nat.le_trans U.lo nb.size⟩
  · obtain ⟨a, c, e⟩ := OwB.slice (B := B) (l := l ++ T) ho
    exact ⟨a, _, c, e⟩
  · have := World.cell?_of_block (a := ⟨q, 0 + j, none⟩) (hg.block q U.lt (fun e => U.ne e.symm))
    exact this.trans (U.rg j v hj)
  · rcases hk q e with h | h
    · exact U.ne h
    · have := U.lt
      omega
theorem ch_next (cs : List CD) (d0 : CD) (k : Nat) : ltT (csT cs d0 (k + 1)) = (((ltT (csT cs d0 k) ++ (cnT k ++ [10])) ++ (enT clW (cs.getD k d0).cl ++ [10])) ++ (enT svW (cs.getD k d0).sv ++ [10])) ++ (waT (cs.getD k d0).ts (cs.getD k d0).tc ++ [10]) := by
  rw [csT_succ, ltT_app]
  simp [ltT, chT]
theorem ch_parts {n : Nat} {c : CD} (hn : n < 9223372036854775808) (L : LnC c) : (cnT n ++ [10]).length ≤ 1000 ∧ (enT clW c.cl ++ [10]).length ≤ 10000000 ∧ (enT svW c.sv ++ [10]).length ≤ 10000000 ∧ (waT c.ts c.tc ++ [10]).length ≤ 10000000 := by
  have h1 := cnT_len hn
  have h2 := enT_len (wo := clW) L.cl.k L.cl.i L.cl.hp (by decide)
  have h3 := enT_len (wo := svW) L.sv.k L.sv.i L.sv.hp (by decide)
  have h4 := waT_len L.ts L.tc
  simp only [List.length_append, List.length_cons, List.length_nil]
  omega
/-- The way's line, beside a box. -/
theorem way_chain2 (w : World) (B q : Nat) (xa : List Value) (w1 wb : World) (g : Nat) (a : Option Addr) (c : Nat) (ts : List Int) (g' : Nat) (a' : Option Addr) (c' : Nat) (tc : List Int) (r : Rd w g a .u8 ts) (r' : Rd w g' a' .u8 tc) (bt : Byt ts) (bc : Byt tc) (h1 : ts.length ≤ 1048576) (h2 : tc.length ≤ 1048576) (v : Value) (l : List UInt8) (U : Und B q xa v l w1 w) (N : Below wb.heap.size wb w) (hl : l.length ≤ 100000000000000) :
    Calls Tryd.prog 15 #[.slice a ts.length c] w fun e w50 => ∃ T1, e = .returned (.string ⟨⟨T1⟩⟩) ∧ Hid (Below wb.heap.size wb w50) ∧
    Calls Tryd.prog 15 #[.slice a' tc.length c'] w50 fun e w51 => ∃ T2, e = .returned (.string ⟨⟨T2⟩⟩) ∧ Hid (Below wb.heap.size wb w51) ∧
    Calls Tryd.prog 12 #[.slice (some ⟨w51.heap.size, 0, none⟩) 3 3] (w51.alloc (.cells #[.string ⟨#[119, 97, 121]⟩, .string ⟨⟨T1⟩⟩, .string ⟨⟨T2⟩⟩] 9)) fun e w52 => ∃ T3, e = .returned (.string ⟨⟨T3⟩⟩) ∧ Hid (Below wb.heap.size wb w52) ∧
    ∃ v' w6, (Builtin.append_ #[23, 9] 23 #[v, .string ⟨⟨T3⟩⟩]).run Tryd.prog w52 = .ok v' w6 ∧ (∃ a n c, v' = .slice a n c) ∧ Hid (Und B q xa v' (l ++ (waT ts tc ++ [10])) w1 w6) := by
  refine (specEncodeHex_any w g a c ts r bt h1).mono ?_
  rintro e x0 ⟨rfl, m0⟩
  have B0 := N.trans (m0.mono N.size)
  refine ⟨heT ts, rfl, B0, ?_⟩
  refine (specEncodeHex_any x0 g' a' c' tc (r'.up m0) bc h2).mono ?_
  rintro e x1 ⟨rfl, m1⟩
  have B1 := B0.trans (m1.mono B0.size)
  refine ⟨heT tc, rfl, B1, ?_⟩
  have m2 : Below x1.heap.size x1 (x1.alloc (.cells #[.string ⟨#[119, 97, 121]⟩, .string ⟨⟨heT ts⟩⟩, .string ⟨⟨heT tc⟩⟩] 9)) := (Below.refl _ _).alloc (Nat.le_refl _) _
  have B2 := B1.trans (m2.mono B1.size)
  have wl := waT_len h1 h2
  refine (l20Line_any _ x1.heap.size 3 [[119, 97, 121], heT ts, heT tc] (heap_alloc_new x1 _) rfl (by decide) (Nat.le_trans wl (by decide))).mono ?_
  rintro e x3 ⟨rfl, m3⟩
  have B3 := B2.trans (m3.mono B2.size)
  obtain ⟨v', w6, hap, hs, ho⟩ := ((((U.up m0).up m1).up m2).up m3).app (waT ts tc ++ [10]) hl (by rw [List.length_append]; simp; omega)
  exact ⟨_, rfl, B3, v', w6, hap, hs, ho⟩
/-- What is saved, behind the digits of its host: the calls, one in the other, and the append. -/
theorem sav_chain (w : World) (B q : Nat) (xa : List Value) (w1 : World) (d : WD) (p : WA) (H : HasR w p d) (L : LnWd d) (v : Value) (l : List UInt8) (U : Und B q xa v l w1 w) (hl : l.length ≤ 100000000000000) :
    ∃ x c w49, (convert 9 23 (.string d.ho)).run Tryd.prog w = .ok (.slice x (byL d.ho).length c) w49 ∧ Hid (Below w.heap.size w w49) ∧
    Calls Tryd.prog 15 #[.slice x (byL d.ho).length c] w49 fun e w50 => ∃ T1, e = .returned (.string ⟨⟨T1⟩⟩) ∧ Hid (Below w.heap.size w w50) ∧
    Calls Tryd.prog 16 #[.agg (saV p.a2 d.tk p.c2 p.a3 d.pk p.c3 p.a4 d.rn p.c4 d.gt d.li d.ho d.sp d.ea), .string ⟨⟨T1⟩⟩] w50 fun e w52 => ∃ T3, e = .returned (.string ⟨⟨T3⟩⟩) ∧ Hid (Below w.heap.size w w52) ∧
    ∃ v' w6, (Builtin.append_ #[23, 9] 23 #[v, .string ⟨⟨T3⟩⟩]).run Tryd.prog w52 = .ok v' w6 ∧ (∃ a n c, v' = .slice a n c) ∧ Hid (Und B q xa v' (l ++ (svT d.tk d.pk d.rn d.gt d.li d.ea (heT (byL d.ho)) d.sp ++ [10])) w1 w6) := by
  obtain ⟨y, w49, hc, hR, n1⟩ := convS w d.ho.data.toList L.ho
  obtain ⟨x, c, g, rfl, R⟩ := hR.rd
  refine ⟨x, c, w49, hc, n1, ?_⟩
  refine (specEncodeHex_any w49 g x c (byL d.ho) R (byL_byt d.ho) (by rw [byL_len]; exact L.ho)).mono ?_
  rintro e w50 ⟨rfl, m0⟩
  have B0 := n1.trans (m0.mono n1.size)
  refine ⟨heT (byL d.ho), rfl, B0, ?_⟩
  have hh := heT_len (byL d.ho)
  rw [byL_len] at hh
  have hz := L.ho
  have ls := svT_len L.tk L.pk L.rn L.gt L.li L.ea (ho := heT (byL d.ho)) (by omega) L.sp
  refine (l20Saved_any w50 p.a2 p.c2 p.g2 d.tk p.a3 p.c3 p.g3 d.pk p.a4 p.c4 p.g4 d.rn d.gt d.li d.ea d.ho d.sp (heT (byL d.ho)) ((H.up n1).up m0).tk ((H.up n1).up m0).pk ((H.up n1).up m0).rn L.b1 L.b2 L.b3 L.tk L.pk L.rn L.gt L.li L.ea (by omega) L.sp).mono ?_
  rintro e w52 ⟨rfl, m3⟩
  have B3 := B0.trans (m3.mono B0.size)
  obtain ⟨v', w6, hap, hs, ho⟩ := (((U.up n1).up m0).up m3).app (svT d.tk d.pk d.rn d.gt d.li d.ea (heT (byL d.ho)) d.sp ++ [10]) hl (by rw [List.length_append]; simp; omega)
  exact ⟨_, rfl, B3, v', w6, hap, hs, ho⟩
/-- Where the text stands behind what is left. -/
def CutU (B q : Nat) (xa : List Value) (l : List UInt8) (w1 : World) (v : Value) (wc : World) : Prop := ∃ a n c, v = .slice a n c ∧ Und B q xa v l w1 wc
theorem en_l20Marks : enters Tryd.prog 17 = true := by kernel_rfl
section
variable {ops : Array Oper} {Q : Exit → Act → World → Prop} {md : Region.Mode} {F : Nat → Fact} {a0 : Act} {w0 : World} {i : Nat} {o : Oper}
theorem sp_str (hi : ops[i]? = some o) (p j : Nat) (v : Value) (l : List UInt8) (B : Nat) (hO : OwB B v l w0) (hop : o.op = .convert 23 9 (.tmp p)) (hj : waits md ops i j p = true) (hFj : F j = Fact.eq v) (hF : F i = Fact.eq (tx l)) : StepOk Tryd.prog md ops Q F a0 w0 i := by
  refine step_pure hi fun a w _ hw hf => ⟨tx l, ?_, by rw [hF]; exact rfl⟩
  have e := hf j p hj
  rw [hFj] at e
  have e' : a.eval (.tmp p) = v := e
  simp only [execOp, hop, e']
  rw [Sem.run_bind, (hO.up hw).conv]
  rfl
theorem sp_add (hi : ops[i]? = some o) (p q j k : Nat) (l m : List UInt8) (h : l.length + m.length ≤ 9223372036854775807) (hop : o.op = .binOp .add 9 (.tmp p) (.tmp q) 9) (hj : waits md ops i j p = true) (hk : waits md ops i k q = true) (hFj : F j = Fact.eq (tx l)) (hFk : F k = Fact.eq (tx m)) (hF : F i = Fact.eq (tx (l ++ m))) : StepOk Tryd.prog md ops Q F a0 w0 i := by
  refine step_pure hi fun a w _ hw hf => ⟨tx (l ++ m), ?_, by rw [hF]; exact rfl⟩
  have e := hf j p hj
  rw [hFj] at e
  have e' : a.eval (.tmp p) = tx l := e
  have f := hf k q hk
  rw [hFk] at f
  have f' : a.eval (.tmp q) = tx m := f
  simp only [execOp, hop, e', f']
  have ad := tx_add w l m h
  go_simp
  exact congrArg (fun r => r.andThen fun a w' => Result.ok (Next.value a) w') ad
end
end Go.Proofs.YtpbniihhpfbamaaDoor
