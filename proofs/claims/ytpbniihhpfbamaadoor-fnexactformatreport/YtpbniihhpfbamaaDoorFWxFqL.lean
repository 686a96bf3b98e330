import Derived.Test.YtpbniihhpfbamaaDoorFW16
import Derived.Test.YtpbniihhpfbamaaDoorFW17
import Derived.Deep.RegionHeld3

/-
  The lines of a world's report (written by gens/fql.py).
-/
namespace Go.Proofs.YtpbniihhpfbamaaDoor
set_option maxRecDepth 100000
open Go Go.RowKit

/-- All lines of a report. -/
def rpL (d : WD) : List (List UInt8) := csT d.cs cd0 d.cs.length ++ ([lfT d.tk d.pk d.rn d.gt d.li d.ea d.ho d.sp] ++ ([wdT d.wd] ++ d.ms.map mkT))
/-- What the lines want of a report. -/
structure LnWd (d : WD) : Prop where
  fa : I64 d.fa
  cs : d.cs.length ≤ 1048576
  cz : ∀ i, i < d.cs.length → LnC (d.cs.getD i cd0)
  tk : d.tk.length ≤ 1048576
  pk : d.pk.length ≤ 1048576
  rn : d.rn.length ≤ 1048576
  b1 : Byt d.tk
  b2 : Byt d.pk
  b3 : Byt d.rn
  gt : I64 d.gt
  li : I64 d.li
  ea : I64 d.ea
  wd : I64 d.wd
  ho : d.ho.size ≤ 1048576
  sp : d.sp.size ≤ 1048576
  mn : d.ms.length ≤ 1048576
  ms : LnM d.ms
def wrV (p : WA) (d : WD) : Array Value := (wrL p d).toArray
/-- The iterators of the first k connections. -/
structure PtI (B : Nat) (cs : List CD) (k : Nat) (v : Value) (vs : List Value) (w : World) : Prop where
  n : vs.length = k
  r : RwV B w v vs
  s : ∀ j, j < k → SqX B (chT j (cs.getD j cd0)) (vs.getD j undef) w
theorem PtI.up {B k : Nat} {cs : List CD} {v : Value} {vs : List Value} {w w' : World} (h : PtI B cs k v vs w) (n : Below w.heap.size w w') : PtI B cs k v vs w' := by
  refine ⟨h.n, ⟨h.r.1, ?_⟩, fun j hj => (h.s j hj).up n⟩
  rcases h.r.2 with h' | ⟨g, cap, cur, e, hb, hg, r⟩
  · exact .inl h'
  · exact .inr ⟨g, cap, cur, e, hb, (n.block g (Array.getElem?_eq_some_iff.1 hg).1).trans hg, r⟩
theorem PtI.next {B k : Nat} {cs : List CD} {v v' f : Value} {vs : List Value} {w w' : World} (h : PtI B cs k v vs w) (hf : SqX B (chT k (cs.getD k cd0)) f w) (r : RwV B w' v' (vs ++ [f])) (b : Bel B w.heap.size w w') : PtI B cs (k + 1) v' (vs ++ [f]) w' := by
  refine ⟨by rw [List.length_append, h.n]; rfl, r, fun j hj => ?_⟩
  by_cases e : j = k
  · subst e
    have e1 : (vs ++ [f]).getD j undef = f := by
      rw [List.getD_eq_getElem?_getD, List.getElem?_append_right (by rw [h.n]; omega), h.n, Nat.sub_self]
      rfl
    rw [e1]
    exact hf.bel b
  · have e1 : (vs ++ [f]).getD j undef = vs.getD j undef := by
      rw [List.getD_eq_getElem?_getD, List.getElem?_append_left (by rw [h.n]; omega), ← List.getD_eq_getElem?_getD]
    rw [e1]
    exact (h.s j (by omega)).bel b
theorem sp_appX {P : Program} {ops : Array Oper} {o : Oper} {a : Act} {w : World} {K : Act → World → Prop} {Q : Exit → Act → World → Prop} {E : Prop} (hg : o.guard = none) (s x : Operand) (t tn : TypeId)
    (ho : o.op = .call { callee := .builtin .append, args := #[s, x], argTypes := #[t, tn] }) (vs vx : Value) (hs : a.eval s = vs) (hx : a.eval x = vx) (R : Value → World → Prop)
    (H : ∃ v' w', (Builtin.append_ #[t, tn] o.type #[vs, vx]).run P w = .ok v' w' ∧ R v' w') (hK : ∀ v' w', R v' w' → K (a.put o.dst v') w') :
    if Region.wanted o (yielded ops a.tmps) = true then Oper.wp P o a w K Q else E := by
  have hw : Region.wanted o (yielded ops a.tmps) = true := by simp [Region.wanted, hg]
  rw [if_pos hw]
  obtain ⟨v', w', hr, hR⟩ := H
  exact Lib.wp_append_run w s x t tn ho vs vx hs hx v' w' hr (hK v' w' hR)
/-- All iterators of a report. -/
structure PtE (B : Nat) (d : WD) (v : Value) (w1 w : World) : Prop where
  vs : ∃ vs : List Value, RwV B w v vs ∧ vs.length = d.cs.length + 3 ∧ ∀ i, i < vs.length → SqV (((List.range d.cs.length).map fun j => chT j (d.cs.getD j cd0)).append [[lfT d.tk d.pk d.rn d.gt d.li d.ea d.ho d.sp], [wdT d.wd], d.ms.map mkT] |>.getD i []) (vs.getD i undef) w
  n : Below B w1 w
theorem PtI.all {B : Nat} {d : WD} {v v' f1 f2 f3 : Value} {vs : List Value} {w1 w w' : World} (h : PtI B d.cs d.cs.length v vs w) (h1 : SqX B [lfT d.tk d.pk d.rn d.gt d.li d.ea d.ho d.sp] f1 w) (h2 : SqX B [wdT d.wd] f2 w) (h3 : SqX B (d.ms.map mkT) f3 w) (r : RwV B w' v' (vs ++ [f1, f2, f3])) (b : Bel B w.heap.size w w') (n : Below B w1 w) (hB : B ≤ w.heap.size) : PtE B d v' w1 w' := by
  have hn := h.n
  refine ⟨⟨_, r, by simp [hn], fun i hi => ?_⟩, n.trans (b.low hB)⟩
  have hi' : i < d.cs.length + 3 := by simpa [hn] using hi
  have L : ((List.range d.cs.length).map fun j => chT j (d.cs.getD j cd0)).length = d.cs.length := by simp
  show SqV ((((List.range d.cs.length).map fun j => chT j (d.cs.getD j cd0)) ++ [[lfT d.tk d.pk d.rn d.gt d.li d.ea d.ho d.sp], [wdT d.wd], d.ms.map mkT]).getD i []) _ w'
  by_cases hk : i < d.cs.length
  · have e1 : (vs ++ [f1, f2, f3]).getD i undef = vs.getD i undef := by
      rw [List.getD_eq_getElem?_getD, List.getElem?_append_left (by omega), ← List.getD_eq_getElem?_getD]
    have e2 : (((List.range d.cs.length).map fun j => chT j (d.cs.getD j cd0)) ++ [[lfT d.tk d.pk d.rn d.gt d.li d.ea d.ho d.sp], [wdT d.wd], d.ms.map mkT]).getD i [] = chT i (d.cs.getD i cd0) := by
      rw [List.getD_eq_getElem?_getD, List.getElem?_append_left (by omega), List.getElem?_map, List.getElem?_range hk]
      rfl
    rw [e1, e2]
    exact ((h.s i hk).bel b).toV
  · have e1 : (vs ++ [f1, f2, f3]).getD i undef = [f1, f2, f3].getD (i - d.cs.length) undef := by
      rw [List.getD_eq_getElem?_getD, List.getElem?_append_right (by omega), hn, ← List.getD_eq_getElem?_getD]
    have e2 : (((List.range d.cs.length).map fun j => chT j (d.cs.getD j cd0)) ++ [[lfT d.tk d.pk d.rn d.gt d.li d.ea d.ho d.sp], [wdT d.wd], d.ms.map mkT]).getD i [] = [[lfT d.tk d.pk d.rn d.gt d.li d.ea d.ho d.sp], [wdT d.wd], d.ms.map mkT].getD (i - d.cs.length) [] := by
      rw [List.getD_eq_getElem?_getD, List.getElem?_append_right (by omega), L, ← List.getD_eq_getElem?_getD]
    rw [e1, e2]
    obtain ⟨j, hj⟩ : ∃ j, j = i - d.cs.length := ⟨_, rfl⟩
    rw [← hj]
    have : j < 3 := by omega
    match j, this with
    | 0, _ => exact (h1.bel b).toV
    | 1, _ => exact (h2.bel b).toV
    | 2, _ => exact (h3.bel b).toV
/-- The calls behind the connections, one in the other. -/
theorem rp_chain (w : World) (w1 : World) (HW : HasW w1) (p : WA) (d : WD) (HR : HasR w1 p d) (L : LnWd d) (v : Value) (vs : List Value) (PT : PtI w1.heap.size d.cs d.cs.length v vs w) (NB : Below w1.heap.size w1 w) :
    Calls Tryd.prog 43 #[.agg (saV p.a2 d.tk p.c2 p.a3 d.pk p.c3 p.a4 d.rn p.c4 d.gt d.li d.ho d.sp d.ea)] w fun e w50 => ∃ T1, e = .returned (.string ⟨⟨T1⟩⟩) ∧ Hid (Below w1.heap.size w1 w50) ∧
    Calls Tryd.prog 22 #[.string ⟨⟨T1⟩⟩] w50 fun e w51 => ∃ g1 l1, e = .returned (.func (.func g1) #[] l1) ∧ Hid (Below w1.heap.size w1 w51) ∧
    Calls Tryd.prog 24 #[.int .i64 d.wd] w51 fun e w52 => ∃ T2, e = .returned (.string ⟨⟨T2⟩⟩) ∧ Hid (Below w1.heap.size w1 w52) ∧
    Calls Tryd.prog 23 #[.slice (some ⟨w52.heap.size, 0, none⟩) 2 2] (w52.alloc (.cells #[.string ⟨#[119, 105, 110, 100, 111, 119]⟩, .string ⟨⟨T2⟩⟩] 9)) fun e w53 => ∃ T3, e = .returned (.string ⟨⟨T3⟩⟩) ∧ Hid (Below w1.heap.size w1 w53) ∧
    Calls Tryd.prog 22 #[.string ⟨⟨T3⟩⟩] w53 fun e w54 => ∃ g2 l2, e = .returned (.func (.func g2) #[] l2) ∧ Hid (Below w1.heap.size w1 w54) ∧
    Calls Tryd.prog 44 #[.slice p.a11 d.ms.length p.c11, .func (.func 45) #[] #[]] w54 fun e w55 => ∃ g3 l3, e = .returned (.func (.func g3) #[] l3) ∧ Hid (Below w1.heap.size w1 w55) ∧
    ∃ v' w6, (Builtin.append_ #[95, 95] 95 #[v, .slice (some ⟨w55.heap.size, 0, none⟩) 3 3]).run Tryd.prog (w55.alloc (.cells #[.func (.func g1) #[] l1, .func (.func g2) #[] l2, .func (.func g3) #[] l3] 63)) = .ok v' w6 ∧ (∃ a n c, v' = .slice a n c) ∧ PtE w1.heap.size d v' w1 w6 := by
  have R := HR.up NB
  refine (leftLine_any w (HW.up NB) p.a2 p.c2 p.g2 d.tk p.a3 p.c3 p.g3 d.pk p.a4 p.c4 p.g4 d.rn d.gt d.li d.ea d.ho d.sp R.tk R.pk R.rn L.b1 L.b2 L.b3 L.tk L.pk L.rn L.gt L.li L.ea L.ho L.sp).mono ?_
  rintro e x0 ⟨rfl, m0⟩
  have B0 := NB.trans (m0.mono NB.size)
  have P0 := PT.up m0
  refine ⟨_, rfl, B0, ?_⟩
  refine (single_any x0 w1.heap.size _).mono ?_
  rintro e x1 ⟨⟨f1, rfl, F1⟩, m1⟩
  have B1 := B0.trans (m1.mono B0.size)
  have P1 := P0.up m1
  have F1' := F1
  obtain ⟨g1, l1, -, rfl, -⟩ := F1'
  refine ⟨g1, l1, rfl, B1, ?_⟩
  refine (numberWord_any x1 (HW.up B1) d.wd L.wd).mono ?_
  rintro e x2 ⟨rfl, m2⟩
  have B2 := B1.trans (m2.mono B1.size)
  have m3 : Below x2.heap.size x2 (x2.alloc (.cells #[.string ⟨#[119, 105, 110, 100, 111, 119]⟩, .string ⟨⟨itL d.wd⟩⟩] 9)) := (Below.refl _ _).alloc (Nat.le_refl _) _
  have B3 := B2.trans (m3.mono B2.size)
  have P3 := (P1.up m2).up m3
  refine ⟨_, rfl, B2, ?_⟩
  refine (lineOf_any _ x2.heap.size [[119, 105, 110, 100, 111, 119], itL d.wd] 2 rfl (by decide) (heap_alloc_new x2 _) (Nat.le_trans (one_len (by decide) L.wd) (by decide)) (by simp)).mono ?_
  rintro e x4 ⟨rfl, m4⟩
  have B4 := B3.trans (m4.mono B3.size)
  have P4 := P3.up m4
  refine ⟨_, rfl, B4, ?_⟩
  refine (single_any x4 w1.heap.size _).mono ?_
  rintro e x5 ⟨⟨f2, rfl, F2⟩, m5⟩
  have B5 := B4.trans (m5.mono B4.size)
  have P5 := P4.up m5
  have F2' := F2
  obtain ⟨g2, l2, -, rfl, -⟩ := F2'
  refine ⟨g2, l2, rfl, B5, ?_⟩
  refine (eachM_any x5 w1.heap.size p.g11 p.a11 p.c11 d.ms p.pl B5.size (fun W n => ⟨(HR.up (B5.trans n)).ms, HW.up (B5.trans n)⟩) L.ms L.mn).mono ?_
  rintro e x6 ⟨⟨f3, rfl, F3⟩, m6⟩
  have B6 := B5.trans (m6.mono B5.size)
  have P6 := P5.up m6
  have F3' := F3
  obtain ⟨g3, l3, -, rfl, -⟩ := F3'
  obtain ⟨v', w6, hap, r6, be⟩ := app_V x6 w1.heap.size v vs [.func (.func g1) #[] l1, .func (.func g2) #[] l2, .func (.func g3) #[] l3] 3 rfl (by decide) P6.r (fun f hf => by
    simp only [List.mem_cons, List.not_mem_nil, or_false] at hf
    rcases hf with rfl | rfl | rfl <;> rfl) (by have := P6.n; have := L.cs; omega) B6.size
  refine ⟨g3, l3, rfl, B6, v', w6, hap, ?_, P6.all (((((F1.up m2).up m3).up m4).up m5).up m6) (F2.up m6) F3 r6 be B6 B6.size⟩
  obtain ⟨_, a, c, e, _⟩ := r6.cells
  exact ⟨a, _, c, e⟩
theorem rp_flat (d : WD) : (((List.range d.cs.length).map fun j => chT j (d.cs.getD j cd0)).append [[lfT d.tk d.pk d.rn d.gt d.li d.ea d.ho d.sp], [wdT d.wd], d.ms.map mkT]).flatten = rpL d := by
  show (((List.range d.cs.length).map fun j => chT j (d.cs.getD j cd0)) ++ [[lfT d.tk d.pk d.rn d.gt d.li d.ea d.ho d.sp], [wdT d.wd], d.ms.map mkT]).flatten = _
  rw [List.flatten_append]
  unfold rpL csT
  simp
theorem rp_join (B : Nat) (d : WD) (w1 w : World) (v : Value) (L : LnWd d) (h : PtE B d v w1 w) :
    Calls Tryd.prog 46 #[v] w fun e w' => (∃ v, e = .returned v ∧ SqV (rpL d) v w') ∧ Below w.heap.size w w' := by
  obtain ⟨vs, r, n, s⟩ := h.vs
  rw [← rp_flat d]
  refine joined_any w B v vs _ r ?_ s (by have := L.cs; omega)
  show _ = (((List.range d.cs.length).map fun j => chT j (d.cs.getD j cd0)) ++ [[lfT d.tk d.pk d.rn d.gt d.li d.ea d.ho d.sp], [wdT d.wd], d.ms.map mkT]).length
  rw [n, List.length_append, List.length_map, List.length_range]
  rfl
set_option maxRecDepth 100000 in
set_option maxHeartbeats 8000000 in
theorem reportLines_any (w : World) (hW : HasW w) (p : WA) (d : WD) (h : HasR w p d) (L : LnWd d) :
    Calls Tryd.prog 25 #[.agg (wrV p d)] w fun e w' => (∃ v, e = .returned v ∧ SqV (rpL d) v w') ∧ Below w.heap.size w w' := by
  have n1 : Below w.heap.size w (w.alloc (.cells (wrV p d) 39)) := (Below.refl _ _).alloc (Nat.le_refl _) _
  have T1 : RwC (w.alloc (.cells (wrV p d) 39)) w.heap.size (wrL p d) 39 := RwC.new w (wrL p d) 39
  have c1 : (w.alloc (.cells (wrV p d) 39)).cell? ⟨w.heap.size, 1, none⟩ = some (.slice p.a1 d.cs.length p.c1) := T1.cell 1
  have HR := hide (h.up n1)
  have HW := hide (hW.up n1)
  have N1 := hide n1
  have TT := hide T1
  clear n1 T1 h hW
  obtain ⟨dC, hdC, hrC⟩ := rowCr
  go_enter Tryd.func25, Tryd.ntmps25
  go_upto_region 3 with fail
  generalize w.alloc (.cells (wrV p d) 39) = w1 at *
  clear c1
  go_loopw [3, 9] (fun v i wr => ∃ (k : Nat) (vs : List Value), k ≤ d.cs.length ∧ i = .int .i64 k ∧ Hid (PtI w1.heap.size d.cs k v vs wr) ∧ Hid (Below w1.heap.size w1 wr)) (fun _ i _ => d.cs.length - (intOf i).toNat)
  case atStart => exact ⟨0, [], Nat.zero_le _, rfl, ⟨rfl, World.ownsRow_nil _ _ _ 1, fun j hj => absurd hj (by omega)⟩, Below.refl _ _⟩
  case round =>
    obtain ⟨k, vs, hk, rfl, PT, NB⟩ := hrel
    by_cases hlt : k < d.cs.length
    · have t0 : (k : Int) < (d.cs.length : Int) := by omega
      have t1 : decide ((k : Int) < (d.cs.length : Int)) = true := decide_eq_true t0
      have k1 : IntKind.i64.wrap ((k : Int) + 1) = ((k + 1 : Nat) : Int) := by rw [IntKind.wrap_i64]; have := L.cs; omega
      obtain ⟨off, ea, hc⟩ := (HR.out.up NB.out).cs.r (by omega)
      rw [ea]
      have RG := hc k hlt
      have LN : (crL (p.P k) (d.cs.getD k cd0)).length = 52 := rfl
      have LS : (crL (p.P k) (d.cs.getD k cd0)).toArray.size = 52 := rfl
      have ON : (crL (p.P k) (d.cs.getD k cd0)).toArray.all (·.oneCell') = true := oneCr _ _
      have a5 : Below wr.heap.size wr (wr.alloc (.cells #[.int .i64 0, .slice none 0 0, .int .i64 0, .slice none 0 0, .slice none 0 0, .slice none 0 0, .int .i64 0, .int .i64 0, .int .i64 0, .int .i64 0, .int .i64 0, .bool false, .bool false, .string ⟨#[]⟩, .slice none 0 0, .slice none 0 0, .slice none 0 0, .slice none 0 0, .slice none 0 0, .int .i64 0, .int .i64 0, .string ⟨#[]⟩, .string ⟨#[]⟩, .int .i64 0, .int .i64 0, .slice none 0 0, .int .i64 0, .slice none 0 0, .slice none 0 0, .slice none 0 0, .int .i64 0, .int .i64 0, .int .i64 0, .int .i64 0, .int .i64 0, .bool false, .bool false, .string ⟨#[]⟩, .slice none 0 0, .slice none 0 0, .slice none 0 0, .slice none 0 0, .slice none 0 0, .int .i64 0, .int .i64 0, .string ⟨#[]⟩, .string ⟨#[]⟩, .int .i64 0, .int .i64 0, .slice none 0 0, .slice none 0 0, .slice none 0 0] 53)) := (Below.refl _ _).alloc (Nat.le_refl _) _
      have TH0 : RwC (wr.alloc (.cells #[.int .i64 0, .slice none 0 0, .int .i64 0, .slice none 0 0, .slice none 0 0, .slice none 0 0, .int .i64 0, .int .i64 0, .int .i64 0, .int .i64 0, .int .i64 0, .bool false, .bool false, .string ⟨#[]⟩, .slice none 0 0, .slice none 0 0, .slice none 0 0, .slice none 0 0, .slice none 0 0, .int .i64 0, .int .i64 0, .string ⟨#[]⟩, .string ⟨#[]⟩, .int .i64 0, .int .i64 0, .slice none 0 0, .int .i64 0, .slice none 0 0, .slice none 0 0, .slice none 0 0, .int .i64 0, .int .i64 0, .int .i64 0, .int .i64 0, .int .i64 0, .bool false, .bool false, .string ⟨#[]⟩, .slice none 0 0, .slice none 0 0, .slice none 0 0, .slice none 0 0, .slice none 0 0, .int .i64 0, .int .i64 0, .string ⟨#[]⟩, .string ⟨#[]⟩, .int .i64 0, .int .i64 0, .slice none 0 0, .slice none 0 0, .slice none 0 0] 53)) wr.heap.size (#[.int .i64 0, .slice none 0 0, .int .i64 0, .slice none 0 0, .slice none 0 0, .slice none 0 0, .int .i64 0, .int .i64 0, .int .i64 0, .int .i64 0, .int .i64 0, .bool false, .bool false, .string ⟨#[]⟩, .slice none 0 0, .slice none 0 0, .slice none 0 0, .slice none 0 0, .slice none 0 0, .int .i64 0, .int .i64 0, .string ⟨#[]⟩, .string ⟨#[]⟩, .int .i64 0, .int .i64 0, .slice none 0 0, .int .i64 0, .slice none 0 0, .slice none 0 0, .slice none 0 0, .int .i64 0, .int .i64 0, .int .i64 0, .int .i64 0, .int .i64 0, .bool false, .bool false, .string ⟨#[]⟩, .slice none 0 0, .slice none 0 0, .slice none 0 0, .slice none 0 0, .slice none 0 0, .int .i64 0, .int .i64 0, .string ⟨#[]⟩, .string ⟨#[]⟩, .int .i64 0, .int .i64 0, .slice none 0 0, .slice none 0 0, .slice none 0 0] : Array Value).toList 53 := RwC.new wr (#[.int .i64 0, .slice none 0 0, .int .i64 0, .slice none 0 0, .slice none 0 0, .slice none 0 0, .int .i64 0, .int .i64 0, .int .i64 0, .int .i64 0, .int .i64 0, .bool false, .bool false, .string ⟨#[]⟩, .slice none 0 0, .slice none 0 0, .slice none 0 0, .slice none 0 0, .slice none 0 0, .int .i64 0, .int .i64 0, .string ⟨#[]⟩, .string ⟨#[]⟩, .int .i64 0, .int .i64 0, .slice none 0 0, .int .i64 0, .slice none 0 0, .slice none 0 0, .slice none 0 0, .int .i64 0, .int .i64 0, .int .i64 0, .int .i64 0, .int .i64 0, .bool false, .bool false, .string ⟨#[]⟩, .slice none 0 0, .slice none 0 0, .slice none 0 0, .slice none 0 0, .slice none 0 0, .int .i64 0, .int .i64 0, .string ⟨#[]⟩, .string ⟨#[]⟩, .int .i64 0, .int .i64 0, .slice none 0 0, .slice none 0 0, .slice none 0 0] : Array Value).toList 53
      have TH : (wr.alloc (.cells #[.int .i64 0, .slice none 0 0, .int .i64 0, .slice none 0 0, .slice none 0 0, .slice none 0 0, .int .i64 0, .int .i64 0, .int .i64 0, .int .i64 0, .int .i64 0, .bool false, .bool false, .string ⟨#[]⟩, .slice none 0 0, .slice none 0 0, .slice none 0 0, .slice none 0 0, .slice none 0 0, .int .i64 0, .int .i64 0, .string ⟨#[]⟩, .string ⟨#[]⟩, .int .i64 0, .int .i64 0, .slice none 0 0, .int .i64 0, .slice none 0 0, .slice none 0 0, .slice none 0 0, .int .i64 0, .int .i64 0, .int .i64 0, .int .i64 0, .int .i64 0, .bool false, .bool false, .string ⟨#[]⟩, .slice none 0 0, .slice none 0 0, .slice none 0 0, .slice none 0 0, .slice none 0 0, .int .i64 0, .int .i64 0, .string ⟨#[]⟩, .string ⟨#[]⟩, .int .i64 0, .int .i64 0, .slice none 0 0, .slice none 0 0, .slice none 0 0] 53)).there wr.heap.size 0 52 := TH0.thereG
      have RX := World.rangeAt_setCells_same (wr.alloc (.cells #[.int .i64 0, .slice none 0 0, .int .i64 0, .slice none 0 0, .slice none 0 0, .slice none 0 0, .int .i64 0, .int .i64 0, .int .i64 0, .int .i64 0, .int .i64 0, .bool false, .bool false, .string ⟨#[]⟩, .slice none 0 0, .slice none 0 0, .slice none 0 0, .slice none 0 0, .slice none 0 0, .int .i64 0, .int .i64 0, .string ⟨#[]⟩, .string ⟨#[]⟩, .int .i64 0, .int .i64 0, .slice none 0 0, .int .i64 0, .slice none 0 0, .slice none 0 0, .slice none 0 0, .int .i64 0, .int .i64 0, .int .i64 0, .int .i64 0, .int .i64 0, .bool false, .bool false, .string ⟨#[]⟩, .slice none 0 0, .slice none 0 0, .slice none 0 0, .slice none 0 0, .slice none 0 0, .int .i64 0, .int .i64 0, .string ⟨#[]⟩, .string ⟨#[]⟩, .int .i64 0, .int .i64 0, .slice none 0 0, .slice none 0 0, .slice none 0 0] 53)) wr.heap.size 0 (crL (p.P k) (d.cs.getD k cd0)) TH
      have OX := only_setG (wr.alloc (.cells #[.int .i64 0, .slice none 0 0, .int .i64 0, .slice none 0 0, .slice none 0 0, .slice none 0 0, .int .i64 0, .int .i64 0, .int .i64 0, .int .i64 0, .int .i64 0, .bool false, .bool false, .string ⟨#[]⟩, .slice none 0 0, .slice none 0 0, .slice none 0 0, .slice none 0 0, .slice none 0 0, .int .i64 0, .int .i64 0, .string ⟨#[]⟩, .string ⟨#[]⟩, .int .i64 0, .int .i64 0, .slice none 0 0, .int .i64 0, .slice none 0 0, .slice none 0 0, .slice none 0 0, .int .i64 0, .int .i64 0, .int .i64 0, .int .i64 0, .int .i64 0, .bool false, .bool false, .string ⟨#[]⟩, .slice none 0 0, .slice none 0 0, .slice none 0 0, .slice none 0 0, .slice none 0 0, .int .i64 0, .int .i64 0, .string ⟨#[]⟩, .string ⟨#[]⟩, .int .i64 0, .int .i64 0, .slice none 0 0, .slice none 0 0, .slice none 0 0] 53)) wr.heap.size (crL (p.P k) (d.cs.getD k cd0)) 0
      have b5 := hide (a5.trans (OX.below (Nat.le_refl _)))
      have CL := hide (fun W (n : Below w1.heap.size w1 W) => (show Calls Tryd.prog 42 #[.int .i64 (k : Int), .agg (crL (p.P k) (d.cs.getD k cd0)).toArray] W _ from channelLines_any W w1.heap.size (HW.out.up n) k (by unfold I64; have := L.cs; omega) (p.P k) (d.cs.getD k cd0) ((HR.out.up n).cs.b k hlt) (L.cz k hlt)))
      have nw : w1.heap.size ≤ wr.heap.size := NB.out.size
      clear hc a5 OX TH0
      generalize crL (p.P k) (d.cs.getD k cd0) = xa at *
      go_upto_region 5 with (first
        | (refine wpList_load_mid rfl 53 (.tmp 12) rfl p.g1 (off + k * 52) rfl xa dC RG hdC hrC (iCr.trans (congrArg some LN.symm)) ?_)
        | (refine wpList_store_mid rfl 53 (.tmp 5) (.tmp 13) rfl wr.heap.size 0 xa.toArray rfl rfl (by rw [LS]; exact TH) (iCr.trans (congrArg some LS.symm)) ON ?_)
        | fail)
      generalize (wr.alloc (.cells #[.int .i64 0, .slice none 0 0, .int .i64 0, .slice none 0 0, .slice none 0 0, .slice none 0 0, .int .i64 0, .int .i64 0, .int .i64 0, .int .i64 0, .int .i64 0, .bool false, .bool false, .string ⟨#[]⟩, .slice none 0 0, .slice none 0 0, .slice none 0 0, .slice none 0 0, .slice none 0 0, .int .i64 0, .int .i64 0, .string ⟨#[]⟩, .string ⟨#[]⟩, .int .i64 0, .int .i64 0, .slice none 0 0, .int .i64 0, .slice none 0 0, .slice none 0 0, .slice none 0 0, .int .i64 0, .int .i64 0, .int .i64 0, .int .i64 0, .int .i64 0, .bool false, .bool false, .string ⟨#[]⟩, .slice none 0 0, .slice none 0 0, .slice none 0 0, .slice none 0 0, .slice none 0 0, .int .i64 0, .int .i64 0, .string ⟨#[]⟩, .string ⟨#[]⟩, .int .i64 0, .int .i64 0, .slice none 0 0, .slice none 0 0, .slice none 0 0] 53)).setCells wr.heap.size 0 xa = wb at *
      have PB := hide (PT.out.up b5.out)
      have NBb := hide (NB.out.trans (b5.out.mono nw))
      have sb := b5.out.size
      clear PT NB RG LS ON TH b5
      go_wp2_with (first | (refine wpList_load_mid rfl 53 (.tmp 5) rfl wr.heap.size 0 rfl xa dC RX hdC hrC (iCr.trans (congrArg some LN.symm)) ?_) | fail)
      refine (CL.out wb NBb.out).mono ?_
      rintro e w5 ⟨⟨f, rfl, F⟩, n5⟩
      have P5 := hide (PB.out.up n5)
      have N5 := hide (NBb.out.trans (n5.mono NBb.out.size))
      clear PB NBb n5 CL RX sb
      have FF := hide F
      obtain ⟨gf, lb, n0, ef, -⟩ := F
      subst ef
      obtain ⟨v', w6, hap, r6, be⟩ := app_V w5 w1.heap.size u3 vs [.func (.func gf) #[] lb] 1 rfl (by decide) P5.out.r (fun f hf => by simp at hf; subst hf; rfl) (by have := P5.out.n; have := L.cs; omega) N5.out.size
      have P6 := hide (P5.out.next FF.out r6 be)
      have N6 := hide (N5.out.trans (be.low N5.out.size))
      clear P5 N5 FF r6 be
      go_wp2_with (at_builtin; refine Lib.wpList_append_run _ rfl _ _ 95 95 rfl _ _ rfl rfl _ _ hap ?_)
      go_roundw
      case rel => exact ⟨k + 1, vs ++ [.func (.func gf) #[] lb], by omega, by first | rfl | go_num, P6, N6⟩
      case measure => simp [intOf]; omega
    · obtain rfl : k = d.cs.length := by omega
      have t1 : decide ((d.cs.length : Int) < (d.cs.length : Int)) = false := decide_eq_false (by omega)
      have nd : Below wr.heap.size wr wr.drew := (Below.refl _ _).drew
      obtain ⟨_, av, ac, eu, -⟩ := PT.out.r.cells
      subst eu
      have nW := hide (NB.out.trans (nd.mono NB.out.size))
      have N1' := hide (rp_chain wr.drew w1 HW.out p d HR.out L (.slice av vs.length ac) vs (PT.out.up nd) nW.out)
      unfold saV at N1'
      have CY : Hid (∀ W, Below w1.heap.size w1 W → W.cell? ⟨w.heap.size, 2, none⟩ = some (.slice p.a2 d.tk.length p.c2) ∧ W.cell? ⟨w.heap.size, 3, none⟩ = some (.slice p.a3 d.pk.length p.c3) ∧ W.cell? ⟨w.heap.size, 4, none⟩ = some (.slice p.a4 d.rn.length p.c4) ∧ W.cell? ⟨w.heap.size, 5, none⟩ = some (.int .i64 d.gt) ∧ W.cell? ⟨w.heap.size, 6, none⟩ = some (.int .i64 d.li) ∧ W.cell? ⟨w.heap.size, 7, none⟩ = some (.string d.ho) ∧ W.cell? ⟨w.heap.size, 8, none⟩ = some (.string d.sp) ∧ W.cell? ⟨w.heap.size, 9, none⟩ = some (.int .i64 d.ea) ∧ W.cell? ⟨w.heap.size, 10, none⟩ = some (.int .i64 d.wd) ∧ W.cell? ⟨w.heap.size, 11, none⟩ = some (.slice p.a11 d.ms.length p.c11)) := fun W n => ⟨(TT.out.up n).cell 2, (TT.out.up n).cell 3, (TT.out.up n).cell 4, (TT.out.up n).cell 5, (TT.out.up n).cell 6, (TT.out.up n).cell 7, (TT.out.up n).cell 8, (TT.out.up n).cell 9, (TT.out.up n).cell 10, (TT.out.up n).cell 11⟩
      have bA : Hid (∀ (W : World) (o : Obj), Below w1.heap.size w1 W → Below w1.heap.size w1 (W.alloc o)) := fun W o n => n.alloc n.size o
      have nw0 := NB
      obtain ⟨dS, hdS, hrS⟩ := rowSv
      clear PT NB nd HR HW TT
      generalize vs.length = an at *
      go_upto_region 7 with fail
      go_region_held3 (fun W => W.cell? ⟨w.heap.size, 2, none⟩ = some (.slice p.a2 d.tk.length p.c2) ∧ W.cell? ⟨w.heap.size, 3, none⟩ = some (.slice p.a3 d.pk.length p.c3) ∧ W.cell? ⟨w.heap.size, 4, none⟩ = some (.slice p.a4 d.rn.length p.c4) ∧ W.cell? ⟨w.heap.size, 5, none⟩ = some (.int .i64 d.gt) ∧ W.cell? ⟨w.heap.size, 6, none⟩ = some (.int .i64 d.li) ∧ W.cell? ⟨w.heap.size, 7, none⟩ = some (.string d.ho) ∧ W.cell? ⟨w.heap.size, 8, none⟩ = some (.string d.sp) ∧ W.cell? ⟨w.heap.size, 9, none⟩ = some (.int .i64 d.ea) ∧ W.cell? ⟨w.heap.size, 10, none⟩ = some (.int .i64 d.wd) ∧ W.cell? ⟨w.heap.size, 11, none⟩ = some (.slice p.a11 d.ms.length p.c11))
        (first | exact CY.out _ nw0.out | exact CY.out _ nW.out | exact CY.out _ m1.out | exact CY.out _ m2.out | exact CY.out _ m3.out | exact CY.out _ (bA.out _ _ m3.out) | exact CY.out _ m4.out | exact CY.out _ m5.out | exact CY.out _ m6.out | exact CY.out _ (bA.out _ _ m6.out) | exact CY.out _ FF.n)
        (first
          | (go_at_call 43; with_reducible refine N1'.out.mono ?_; rintro e w50 ⟨X1, rfl, m1, N2⟩)
          | (go_at_call 22; with_reducible refine N2.mono ?_; rintro e w51 ⟨g1, l1, rfl, m2, N3⟩)
          | (go_at_call 24; with_reducible refine N3.mono ?_; rintro e w52 ⟨X2, rfl, m3, N4⟩)
          | (go_at_call 23; with_reducible refine N4.mono ?_; rintro e w53 ⟨X3, rfl, m4, N5⟩)
          | (go_at_call 22; with_reducible refine N5.mono ?_; rintro e w54 ⟨g2, l2, rfl, m5, N6⟩)
          | (go_at_call 44; with_reducible refine N6.mono ?_; rintro e w55 ⟨g3, l3, rfl, m6, AP⟩)
          | (refine sp_appX rfl (.tmp 21) (.tmp 37) 95 95 rfl (.slice av an ac) (.slice (some ⟨w55.heap.size, 0, none⟩) 3 3) rfl rfl _ AP ?_; rintro v3 w6 ⟨⟨xa, xn, xc, rfl⟩, FF⟩)
          | fail)
      all_goals
        clear N1' AP CY bA nw0 nW m1 m2 m3 m4 m5 m6 t1
        have JN := hide (rp_join w1.heap.size d w1 w6 _ L FF)
        have N6 := hide (N1.out.trans (FF.n.mono N1.out.size))
        clear FF
        go_wp2_with fail
        refine JN.out.mono ?_
        rintro e w7 ⟨⟨f, rfl, F⟩, n7⟩
        have FF := hide F
        have N7 := hide (nxt N6.out n7)
        clear F n7 JN N6
        go_wp2
        go_ret
        exact ⟨⟨_, rfl, FF.out⟩, N7.out⟩
end Go.Proofs.YtpbniihhpfbamaaDoor
