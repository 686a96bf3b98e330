import Derived.Test.YtpjgedbemblnhaaDoorGZ9
import Derived.Test.YtpjgedbemblnhaaDoorGZ4
import Derived.Test.YtpjgedbemblnhaaDoorRows
import Derived.Test.YtpjgedbemblnhaaDoorGZ7
import Derived.Lib.LaidTab
import Derived.Lib.LaidU8
import Derived.LaidMore
import Derived.Test.YtpjgedbemblnhaaDoorGZ8

/-
  The program's isOnCurve and readPoint.
-/
namespace Go.Proofs.YtpjgedbemblnhaaDoor
set_option maxRecDepth 100000
open Go Go.RowKit

theorem results_cell_slot {P : Program} {fn : Func} {p s : Tmp} {ty : TypeId} {v : Value} (h : fn.results = #[.cell p ty, .tmp s]) (tmps : Array Value) (w : World) (g : Nat) (cs : List Value) (d : TypeDesc)
    (hp : tmps.getD p undef = .pointer (some ⟨g, 0, none⟩)) (hs : tmps.getD s undef = v) (hc : w.rangeAt g 0 cs) (hu : P.underlying ty = some d) (hd : d.isRow = true) (hi : (P.info? ty).map (·.size) = some cs.length) :
    (results fn tmps).run P w = .ok (.tuple #[.agg cs.toArray, v]) w := by
  have hp' : tmps[p]?.getD undef = .pointer (some ⟨g, 0, none⟩) := by simpa using hp
  have hs' : tmps[s]?.getD undef = v := by simpa using hs
  simp [results, h, hp', hs', asAddr, run_loadVar_mid w g 0 ty cs d hc hu hd hi]
/-- The curve's equation, by the program's factor D. -/
def onB (D x y : Int) : Bool := decide ((y * y - x * x) % PP = (1 + D * (x * x) * (y * y)) % PP)
section
variable {ops : Array Oper} {Q : Exit → Act → World → Prop} {md : Region.Mode} {F : Nat → Fact} {a0 : Act} {w0 : World} {i : Nat} {o : Oper} {ts : Array TypeId}
end
/-- What readPoint reads: the coordinates, or zeros. -/
def rpC (xs ys : List Int) : Bool := canN xs && canN ys
def rpX (xs ys : List Int) : Int := if rpC xs ys = true then num xs else 0
def rpY (xs ys : List Int) : Int := if rpC xs ys = true then num ys else 0
def rpB (D : Int) (xs ys : List Int) : Bool := rpC xs ys && onB D (num xs) (num ys)
end Go.Proofs.YtpjgedbemblnhaaDoor

/-
  Steps: the program's calls on points.
-/
namespace Go.Proofs.YtpjgedbemblnhaaDoor
set_option maxRecDepth 100000
open Go Go.RowKit

/-- A list of bytes that may be read. -/
def RdOk (W : World) (a : Option Addr) (xs : List Int) : Prop := ∃ g, Rd W g a .u8 xs ∧ Byt xs
theorem RdOk.up {W W' : World} {a : Option Addr} {xs : List Int} (h : RdOk W a xs) (n : Below W.heap.size W W') : RdOk W' a xs := by
  obtain ⟨g, r, b⟩ := h
  exact ⟨g, r.up n, b⟩
theorem Two.there {w : World} {p : Nat} {x y : Value} (h : Two w p x y) : w.there p 0 2 := fun j hj => by
  obtain rfl | rfl : j = 0 ∨ j = 1 := by omega
  · exact ⟨by rw [show (⟨p, 0 + 0, none⟩ : Addr) = ⟨p, 0, none⟩ from rfl, h.c0]; rfl, h.f0⟩
  · exact ⟨by rw [show (⟨p, 0 + 1, none⟩ : Addr) = ⟨p, 1, none⟩ from rfl, h.c1]; rfl, h.f1⟩
section
variable {ops : Array Oper} {Q : Exit → Act → World → Prop} {md : Region.Mode} {F : Nat → Fact} {a0 : Act} {w0 : World} {i : Nat} {o : Oper} {ts : Array TypeId}
theorem step_pt (hi : ops[i]? = some o) (p j : Nat) (X Y : Int) (hop : o.op = .call { callee := .value (.func 11), args := #[.tmp p], argTypes := ts })
    (hj : waits md ops i j p = true) (hFj : F j = EN [X, Y]) (hFi : F i = PD w0 (fill (byt (X % PP)) 32) (fill (byt (Y % PP)) 32)) : StepOk Tryd.prog md ops Q F a0 w0 i := by
  refine step_call hi _ _ ts hop (by kernel_rfl) fun a w _ hw hF => ?_
  have ea := hF j p hj
  rw [hFj] at ea
  obtain ⟨t, e1, L1⟩ := ea
  show Calls Tryd.prog 11 #[a.tmps.getD p undef] w _
  rw [e1]
  refine (point_any w t X Y L1).mono ?_
  rintro r w' ⟨⟨b, c, g, b', c', g', rfl, o1, o2, k1, k2, hne⟩, hn⟩
  rw [hFi]
  have z := hw.size
  exact ⟨_, rfl, hn, b, b', c, c', g, g', rfl, o1, o2, by omega, by omega, hne⟩
/-- A struct of two cells is read. -/
theorem step_lP (hi : ops[i]? = some o) (p : Nat) (hop : o.op = .load 24 (.tmp p)) (hp : apart ops p = true) (q : Nat) (h0 : a0.tmps.getD p undef = .pointer (some ⟨q, 0, none⟩)) (u v : Value) (c0 : w0.cell? ⟨q, 0, none⟩ = some u) (c1 : w0.cell? ⟨q, 1, none⟩ = some v) (hF : F i = Fact.eq (.agg #[u, v])) : StepOk Tryd.prog md ops Q F a0 w0 i := by
  obtain ⟨fs, hu⟩ := uP
  refine step_load hi _ _ hop _ 2 hu rfl iP fun a w hb hw _ => ?_
  refine ⟨q, 0, [u, v], (based_at hb p hp).trans h0, fun j x hx => ?_, rfl, by rw [hF]; exact rfl⟩
  have d0 := (hw.cell (block_lt_of_cell c0)).trans c0
  have d1 := (hw.cell (block_lt_of_cell c1)).trans c1
  have hj : j < 2 := (List.getElem?_eq_some_iff.1 hx).1
  obtain rfl | rfl : j = 0 ∨ j = 1 := by omega
  · cases hx
    exact d0
  · cases hx
    exact d1
end
end Go.Proofs.YtpjgedbemblnhaaDoor

/-
  The program's PointZero, PointBase, PointToLadder.
-/
namespace Go.Proofs.YtpjgedbemblnhaaDoor
set_option maxRecDepth 100000
open Go Go.RowKit

set_option maxHeartbeats 2000000 in
theorem implZero_any (w : World) (ZP : RowN w 0 0 [0, 1]) :
    Calls Tryd.prog 5 #[] w fun r w' => NewP2 w.heap.size w' r (fill (byt ((0) % PP)) 32) (fill (byt ((1) % PP)) 32) ∧ Below w.heap.size w w' := by
  have TZ := Two.new w (.slice none 0 0) (.slice none 0 0) 24
  have N : Below w.heap.size w (w.alloc pObj) := (Below.refl _ _).alloc (Nat.le_refl _) _
  go_enter Tryd.func5, Tryd.ntmps5
  go_upto_region 1 with fail
  obtain ⟨wr, hwr⟩ : ∃ W, W = w.alloc pObj := ⟨_, rfl⟩
  change Two (w.alloc pObj) _ _ _ at TZ
  rw [← hwr] at TZ N
  change Code.wp _ _ _ _ (w.alloc pObj)
  rw [← hwr]
  clear hwr
  replace ZP := ZP.up N
  refine region_putD 2 1 0 2 _ (fun i => [EN [0, 1], PD wr (fill (byt ((0) % PP)) 32) (fill (byt ((1) % PP)) 32)].getD i Fact.no) (fill (byt ((0) % PP)) 32) (fill (byt ((1) % PP)) 32) _ (by kernel_rfl) rfl rfl rfl (by kernel_rfl) rfl TZ.there (by kernel_rfl) rfl ?_ ?_
  · intro i hi
    obtain rfl | rfl : i = 0 ∨ i = 1 := by omega
    · exact step_glA rfl 0 rfl _ _ ZP rfl
    · exact step_pt rfl 1 0 _ _ rfl (by kernel_rfl) rfl rfl
  intro vsL Wa Wb b b' k k' h h' na rg o1 o2 l1 l2 hne nb
  have z := N.size
  have NS := nb w w.heap.size (nxt N na) (by omega)
  simp only [puts, Act.put, List.setIfInBounds_toArray, List.set_cons_succ, List.set_cons_zero]
  clear na nb N TZ ZP
  obtain ⟨fs, hfs⟩ := uP
  go_wp2
  exact bodyPost_ret (v := .agg #[.slice b _ k, .slice b' _ k']) (results_cell_mid Tryd.results5 _ _ w.heap.size [.slice b _ k, .slice b' _ k'] _ rfl rg hfs rfl iP) rfl ⟨⟨b, k, h, b', k', h', rfl, o1, o2, by omega, by omega, hne⟩, NS⟩
/-- The ladder's coordinate of a point, as bytes. -/
def tlA (D : Int) (xs ys : List Int) : List Int := if rpB D xs ys = true then fill (byt ((1 + rpY xs ys) * (1 - rpY xs ys) ^ eInv % PP)) 32 else []
end Go.Proofs.YtpjgedbemblnhaaDoor

/-
  What the listed zero of the points gives the walks: its cells.
-/
namespace Go.Proofs.YtpjgedbemblnhaaDoor
set_option maxRecDepth 100000
open Go.RowKit

theorem gZpz : Tryd.prog.globalNamed "loop.example/g00004/impl.zeroPoint" = some 0 := by kernel_rfl
theorem tZpz : (Tryd.prog.globals[0]?).map (·.type) = some 37 := by kernel_rfl
theorem cAfz : Tryd.prog.cellsOf 37 = 10 := by kernel_rfl
theorem uElz : Tryd.prog.underlying 35 = some (.array 5 33) := by kernel_rfl
theorem cElz : Tryd.prog.cellsOf 35 = 5 := by kernel_rfl
theorem cU64z : Tryd.prog.cellsOf 33 = 1 := by kernel_rfl
theorem zp_of_readsz {W : World} (h : Lib.VarReads Tryd.prog W "loop.example/g00004/impl.zeroPoint" Rows.laid_loop_example_g00004_impl_zeroPoint) : RowN W 0 0 [0, 1] := by
  obtain ⟨g', t, cs, fuel, p, hg, ht', hv, hd⟩ := h
  obtain rfl := Option.some.inj (gZpz.symm.trans hg)
  obtain rfl := Option.some.inj (tZpz.symm.trans ht')
  obtain ⟨y0, y1, m, hx', hl, h0, h1⟩ := ChangeShapes.trod_struct2 Tryd.underlying37 hd
  obtain ⟨d0, p0⟩ := y0
  obtain ⟨d1, p1⟩ := y1
  simp only [Rows.laid_loop_example_g00004_impl_zeroPoint, Prod.mk.injEq, DataW.agg.injEq, List.cons.injEq, and_true] at hx'
  obtain ⟨⟨rfl, rfl⟩, _⟩ := hx'
  have k0 := Lib.cells_of_tab (zs := [0, 0, 0, 0, 0]) uElz Tryd.underlying33 cU64z cElz h0
  have k1 := Lib.cells_of_tab (zs := [1, 0, 0, 0, 0]) uElz Tryd.underlying33 cU64z cElz h1
  rw [cAfz] at hl
  obtain ⟨l⟩ := cs
  simp only at hl k0 k1
  rw [cElz] at k0 k1
  have e1 : l = clN [sm5 0, sm5 1] := by
    have s : l = (l.drop 0).take 5 ++ (l.drop 5).take 5 := by
      rw [List.drop_zero, List.take_of_length_le (l := l.drop 5) (by rw [List.length_drop]; omega), List.take_append_drop]
    rw [s]
    have k0' : (l.drop 0).take 5 = cl5 (sm5 0) := k0
    have k1' : (l.drop 5).take 5 = cl5 (sm5 1) := k1
    rw [k0', k1']
    simp [clN]
  subst e1
  have key : ∀ j v, (clN [sm5 0, sm5 1])[j]? = some v → W.cell? ⟨0, 0 + j, none⟩ = some v := fun j v hv' => by
    rw [Nat.zero_add, World.var?_cell hg hv j]
    simpa using hv'
  exact ⟨[sm5 0, sm5 1], key, block_lt_of_cell (by simpa using key 0 _ rfl), sm5_ok (by omega) (by omega), sm5_ok (by omega) (by omega), trivial⟩
theorem reads_ofz {l : List (String × DataW Unit)} {W : World} (h : laidMetH Tryd.prog l W) (hp : (l.all fun x => x.2.handleName?.isNone) = true) {n : String} {d : DataW Unit} (hm : (n, d) ∈ l) : Lib.VarReads Tryd.prog W n d := by
  rw [MakeChecks.laidMetH_plain _ _ _ hp] at h
  exact Lib.laidMet.reads h hm
end Go.Proofs.YtpjgedbemblnhaaDoor

/-
  Steps of the laws on points: structs of two lists read, copied, held against each other.
-/
namespace Go.Proofs.YtpjgedbemblnhaaDoor
set_option maxRecDepth 100000
open Go Go.RowKit

/-- A point of these two lists in blocks of their own. -/
def PR (xs ys : List Int) : Fact := ⟨fun v w => ∃ p q : Nat, v = .agg #[.slice (some ⟨p, 0, none⟩) xs.length xs.length, .slice (some ⟨q, 0, none⟩) ys.length ys.length] ∧ Blk w p .u8 xs ∧ Blk w q .u8 ys, fun n h => by
  obtain ⟨p, q, e, h1, h2⟩ := h
  exact ⟨p, q, e, h1.up n, h2.up n⟩⟩
section
variable {ops : Array Oper} {Q : Exit → Act → World → Prop} {md : Region.Mode} {F : Nat → Fact} {a0 : Act} {w0 : World} {i : Nat} {o : Oper} {ts : Array TypeId}
theorem step_l2 (ty : TypeId) (hu : ∃ fs, Tryd.prog.underlying ty = some (.struct fs)) (hs : (Tryd.prog.info? ty).map (·.size) = some 2) (hi : ops[i]? = some o) (p : Nat) (hop : o.op = .load ty (.tmp p)) (hp : apart ops p = true) (q : Nat) (h0 : a0.tmps.getD p undef = .pointer (some ⟨q, 0, none⟩)) (u v : Value) (T : Two w0 q u v) (hF : F i = Fact.eq (.agg #[u, v])) : StepOk Tryd.prog md ops Q F a0 w0 i := by
  obtain ⟨fs, hu⟩ := hu
  refine step_load hi _ _ hop _ 2 hu rfl hs fun a w hb hw _ => ?_
  refine ⟨q, 0, [u, v], (based_at hb p hp).trans h0, fun j x hx => ?_, rfl, by rw [hF]; exact rfl⟩
  have T' := T.up hw
  have hj : j < 2 := (List.getElem?_eq_some_iff.1 hx).1
  obtain rfl | rfl : j = 0 ∨ j = 1 := by omega
  · cases hx
    exact T'.c0
  · cases hx
    exact T'.c1
theorem step_eqP (hi : ops[i]? = some o) (p q j k : Nat) {a a' : Option Addr} {c c' : Nat} {xs ys : List Int} (hop : o.op = .call { callee := .value (.func 6), args := #[.tmp p, .tmp q], argTypes := ts })
    (hj : waits md ops i j p = true) (hk : waits md ops i k q = true) {g g' : Nat} (hP : PrP w0 g a xs g' a' ys) (hn : xs.length ≤ 1048576) (hm : ys.length ≤ 1048576) (hFj : F j = Fact.eq (.agg #[.slice a xs.length c, .slice a' ys.length c'])) (hFk : F k = PR xs ys) (hFi : F i = Fact.eq (.bool true)) : StepOk Tryd.prog md ops Q F a0 w0 i := by
  refine step_call hi _ _ ts hop (by kernel_rfl) fun A w _ hw hF => ?_
  have ea := hF j p hj
  have eb := hF k q hk
  rw [hFj] at ea
  rw [hFk] at eb
  obtain ⟨p', q', e2, b1, b2⟩ := eb
  show Calls Tryd.prog 6 #[A.tmps.getD p undef, A.tmps.getD q undef] w _
  rw [show A.tmps.getD p undef = _ from ea, e2]
  refine (eqPoint_same w g p' g' q' a _ a' _ c _ c' _ xs ys (hP.up hw) ⟨b1.own0, b2.own0⟩ hn hm).mono ?_
  rintro r w' ⟨rfl, hn⟩
  rw [hFi]
  exact ⟨_, rfl, hn, rfl⟩
end
end Go.Proofs.YtpjgedbemblnhaaDoor

/-
  The law of PointZero.
-/
namespace Go.Proofs.YtpjgedbemblnhaaDoor
set_option maxRecDepth 100000
open Go Go.RowKit

abbrev HasZp (w : World) : Prop := RowN w 0 0 [0, 1]
theorem laid_pzero {W : World} (h : laidMetH Tryd.prog Rows.fnExactPointZeroRow.laid W) : HasZp W := zp_of_readsz (reads_ofz h (by kernel_rfl) (.head _))
set_option maxHeartbeats 8000000 in
theorem pzero_law (w : World) (hL : HasZp w) :
    Calls Tryd.prog 3 #[] w fun e w' => e = .returned (.bool true) ∧ Below w.heap.size w w' := by
  have SP := fun W => pointZero_any W
  have IM := fun W (n : Below w.heap.size w W) => implZero_any W (hL.up n)
  have lrx : (fill (byt (0 % PP)) 32).length ≤ 1048576 := by rw [fill_len]; omega
  have prx : 0 < (fill (byt (0 % PP)) 32).length := by rw [fill_len]; omega
  obtain ⟨rx, hrx⟩ : ∃ l, l = fill (byt (0 % PP)) 32 := ⟨_, rfl⟩
  simp only [← hrx] at SP IM lrx prx
  clear hrx
  have lry : (fill (byt (1 % PP)) 32).length ≤ 1048576 := by rw [fill_len]; omega
  have pry : 0 < (fill (byt (1 % PP)) 32).length := by rw [fill_len]; omega
  obtain ⟨ry, hry⟩ : ∃ l, l = fill (byt (1 % PP)) 32 := ⟨_, rfl⟩
  simp only [← hry] at SP IM lry pry
  clear hry
  clear hL
  go_enter Tryd.func3, Tryd.ntmps3
  have N : Below w.heap.size w w := Below.refl _ _
  go_wp2_with fail
  refine (SP w ).mono ?_
  rintro e w1 ⟨⟨sa, sa', sc, sc', sg, sg', rfl, so, so', sl, sl'⟩, n1⟩
  replace N := nxt N n1
  have zn1 := n1.size
  clear n1
  have o4 : PrP w1 sg sa rx sg' sa' ry := ⟨so, so'⟩
  clear so so'
  have Y4 := hide o4.l.rd.lt
  have Y4' := hide o4.r.rd.lt
  have T4 := Two.new w1 (.slice sa rx.length sc) (.slice sa' ry.length sc') 24
  have n2 : Below w1.heap.size w1 (w1.alloc (.cells #[.slice sa rx.length sc, .slice sa' ry.length sc'] 24)) := (Below.refl _ _).alloc (Nat.le_refl _) _
  replace o4 := o4.up n2
  replace N := nxt N n2
  clear n2
  go_wp2_with fail
  generalize w1.alloc (.cells #[.slice sa rx.length sc, .slice sa' ry.length sc'] 24) = w2 at *
  have uT4 := T4.lt
  refine (IM w2  N).mono ?_
  rintro e w3 ⟨NR, n3⟩
  have zn3 := n3.size
  obtain ⟨i6a, i6c, i6g, i6a', i6c', i6g', rfl, i6o, i6o', i6l, i6l', i6r⟩ := NR
  have o6 : PrP w3 i6g i6a rx i6g' i6a' ry := ⟨i6o, i6o'⟩
  clear i6o i6o'
  have i6h := o6.l.rd.lt prx
  have i6h' := o6.r.rd.lt pry
  replace o4 := o4.up n3
  replace T4 := T4.up n3
  replace N := nxt N n3
  clear n3
  have T6 := Two.new w3 (.slice i6a rx.length i6c) (.slice i6a' ry.length i6c') 24
  have n4 : Below w3.heap.size w3 (w3.alloc (.cells #[.slice i6a rx.length i6c, .slice i6a' ry.length i6c'] 24)) := (Below.refl _ _).alloc (Nat.le_refl _) _
  replace o4 := o4.up n4
  replace T4 := T4.up n4
  replace o6 := o6.up n4
  replace N := nxt N n4
  clear n4
  have T60 := T6.c0
  have T61 := T6.c1
  have T40 := T4.c0
  have T41 := T4.c1
  go_wp2_with fail
  generalize w3.alloc (.cells #[.slice i6a rx.length i6c, .slice i6a' ry.length i6c'] 24) = w4 at *
  have uT6 := T6.lt
  refine (eqPoint_same w4 _ _ _ _ _ _ _ _ _ _ _ _ rx ry o6 o4 lrx lry).mono ?_
  rintro e w5 ⟨rfl, n5⟩
  clear T60 T61 T40 T41
  replace o4 := o4.up n5
  replace T4 := T4.up n5
  replace o6 := o6.up n5
  replace T6 := T6.up n5
  replace N := nxt N n5
  have zn5 := n5.size
  clear n5
  have LG := o6.l.rd.lt prx
  have T60 := T6.c0
  have T61 := T6.c1
  go_wp2_with fail
  refine (markPoint_any w5 i6g i6g' _ _ _ _ rx ry 1 o6 lrx lry (by omega) (by omega) (fun h => i6r h pry) (fun h => i6r prx h) (by omega)).mono ?_
  rintro e w6 ⟨rfl, oH, OH⟩
  have zzH := OH.size
  clear T60 T61
  clear o6
  have NN := N.size
  replace N := N.trans (OH.below (B := w.heap.size) (by omega) (by omega) (by omega))
  clear NN
  replace o4 := o4.butP OH (fun h => ⟨by have := Y4.out h; omega, by have := Y4.out h; omega⟩) (fun h => ⟨by have := Y4'.out h; omega, by have := Y4'.out h; omega⟩)
  replace T4 := T4.butP OH (by omega) (by omega)
  replace T6 := T6.butP OH (by omega) (by omega)
  clear OH
  have t4 : decide ((1 : Int) + (rx.length : Int) + (ry.length : Int) < 0) = false := by simp; omega
  have T60 := T6.c0
  have T61 := T6.c1
  go_wp2_with fail
  refine (heldPoint_any w6 i6g i6g' _ _ _ _ rx.length ry.length 1 oH lrx lry (by omega) (by omega)).mono ?_
  rintro e w7 ⟨rfl, n7⟩
  clear T60 T61
  replace o4 := o4.up n7
  replace T4 := T4.up n7
  replace T6 := T6.up n7
  replace oH := oH.up n7
  replace N := nxt N n7
  have zn7 := n7.size
  clear n7
  go_wp2_with fail
  refine (IM w7  N).mono ?_
  rintro e w8 ⟨NR, n8⟩
  have zn8 := n8.size
  obtain ⟨i9a, i9c, i9g, i9a', i9c', i9g', rfl, i9o, i9o', i9l, i9l', i9r⟩ := NR
  have o9 : PrP w8 i9g i9a rx i9g' i9a' ry := ⟨i9o, i9o'⟩
  clear i9o i9o'
  replace o4 := o4.up n8
  replace T4 := T4.up n8
  replace T6 := T6.up n8
  replace oH := oH.up n8
  replace N := nxt N n8
  clear n8
  have T9 := Two.new w8 (.slice i9a rx.length i9c) (.slice i9a' ry.length i9c') 24
  have n9 : Below w8.heap.size w8 (w8.alloc (.cells #[.slice i9a rx.length i9c, .slice i9a' ry.length i9c'] 24)) := (Below.refl _ _).alloc (Nat.le_refl _) _
  replace o4 := o4.up n9
  replace T4 := T4.up n9
  replace T6 := T6.up n9
  replace oH := oH.up n9
  replace o9 := o9.up n9
  replace N := nxt N n9
  clear n9
  have T90 := T9.c0
  have T91 := T9.c1
  have T40 := T4.c0
  have T41 := T4.c1
  go_wp2_with fail
  generalize w8.alloc (.cells #[.slice i9a rx.length i9c, .slice i9a' ry.length i9c'] 24) = w9 at *
  have uT9 := T9.lt
  refine (eqPoint_same w9 _ _ _ _ _ _ _ _ _ _ _ _ rx ry o9 o4 lrx lry).mono ?_
  rintro e w10 ⟨rfl, n10⟩
  clear T90 T91 T40 T41
  replace o4 := o4.up n10
  replace T4 := T4.up n10
  replace T6 := T6.up n10
  replace oH := oH.up n10
  replace o9 := o9.up n10
  replace T9 := T9.up n10
  replace N := nxt N n10
  have zn10 := n10.size
  clear n10
  clear o9 o4 T9 T4
  have T60 := T6.c0
  have T61 := T6.c1
  go_wp2_with fail
  refine (heldPoint_any w10 i6g i6g' _ _ _ _ rx.length ry.length 1 oH lrx lry (by omega) (by omega)).mono ?_
  rintro e w11 ⟨rfl, n11⟩
  clear T60 T61
  replace T6 := T6.up n11
  replace oH := oH.up n11
  replace N := nxt N n11
  have zn11 := n11.size
  clear n11
  go_wp2
  go_ret
  exact ⟨rfl, N⟩
end Go.Proofs.YtpjgedbemblnhaaDoor
