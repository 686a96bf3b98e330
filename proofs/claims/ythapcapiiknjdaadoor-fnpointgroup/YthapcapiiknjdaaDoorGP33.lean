import Derived.Test.YthapcapiiknjdaaDoorGP9
import Derived.Test.YthapcapiiknjdaaDoorGP32

/-
  What the listed package-level variables give the points' calls.
-/
namespace Go.Proofs.YthapcapiiknjdaaDoor
set_option maxRecDepth 100000
open Go.RowKit

theorem gCf : Tryd.prog.globalNamed "loop.example/g00004/impl.curveFactor" = some 2 := by kernel_rfl
theorem tCf : (Tryd.prog.globals[2]?).map (·.type) = some 56 := by kernel_rfl
theorem uEl : Tryd.prog.underlying 56 = some (.array 5 54) := by kernel_rfl
theorem cEl : Tryd.prog.cellsOf 56 = 5 := by kernel_rfl
theorem cf_of_reads {W : World} (h : Lib.VarReads Tryd.prog W "loop.example/g00004/impl.curveFactor" Rows.laid_loop_example_g00004_impl_curveFactor) : Em5 W 2 0 dGo := by
  obtain ⟨g, t, cs, fuel, p, hg, ht, hv, hd⟩ := h
  obtain rfl := Option.some.inj (gCf.symm.trans hg)
  obtain rfl := Option.some.inj (tCf.symm.trans ht)
  have hcs := Lib.cells_of_tab (zs := [929955233495203, 466365720129213, 1662059464998953, 2033849074728123, 1442794654840575]) uEl Tryd.underlying54 cU64 cEl hd
  obtain ⟨l⟩ := cs
  simp only at hcs
  subst hcs
  have key : ∀ j v, (cl5 dL)[j]? = some v → W.cell? ⟨2, 0 + j, none⟩ = some v := fun j v hv' => by
    rw [Nat.zero_add, World.var?_cell hg hv j, List.getElem?_toArray]
    exact hv'
  exact ⟨dL, key, block_lt_of_cell (by simpa using key 0 _ rfl), dL_is⟩
theorem gZp : Tryd.prog.globalNamed "loop.example/g00004/impl.zeroPoint" = some 0 := by kernel_rfl
theorem tZp : (Tryd.prog.globals[0]?).map (·.type) = some 58 := by kernel_rfl
theorem gBp : Tryd.prog.globalNamed "loop.example/g00004/impl.basePoint" = some 1 := by kernel_rfl
theorem tBp : (Tryd.prog.globals[1]?).map (·.type) = some 58 := by kernel_rfl
theorem cAf : Tryd.prog.cellsOf 58 = 10 := by kernel_rfl
theorem row_of_reads {W : World} {n : String} {g : Nat} (e f : Nat → Int) (X Y : Int) (hn : Tryd.prog.globalNamed n = some g) (ht : (Tryd.prog.globals[g]?).map (·.type) = some 58)
    (h : Lib.VarReads Tryd.prog W n (.agg [.agg [.lit (.int .u64 (e 0)), .lit (.int .u64 (e 1)), .lit (.int .u64 (e 2)), .lit (.int .u64 (e 3)), .lit (.int .u64 (e 4))], .agg [.lit (.int .u64 (f 0)), .lit (.int .u64 (f 1)), .lit (.int .u64 (f 2)), .lit (.int .u64 (f 3)), .lit (.int .u64 (f 4))]]))
    (hx : Is5 e X) (hy : Is5 f Y) : RowN W g 0 [X, Y] := by
  obtain ⟨g', t, cs, fuel, p, hg, ht', hv, hd⟩ := h
  obtain rfl := Option.some.inj (hn.symm.trans hg)
  obtain rfl := Option.some.inj (ht.symm.trans ht')
  obtain ⟨y0, y1, m, hx', hl, h0, h1⟩ := ChangeShapes.trod_struct2 Tryd.underlying58 hd
  obtain ⟨d0, p0⟩ := y0
  obtain ⟨d1, p1⟩ := y1
  simp only [Prod.mk.injEq, DataW.agg.injEq, List.cons.injEq, and_true] at hx'
  obtain ⟨⟨rfl, rfl⟩, _⟩ := hx'
  have k0 := Lib.cells_of_tab (zs := [e 0, e 1, e 2, e 3, e 4]) uEl Tryd.underlying54 cU64 cEl h0
  have k1 := Lib.cells_of_tab (zs := [f 0, f 1, f 2, f 3, f 4]) uEl Tryd.underlying54 cU64 cEl h1
  rw [cAf] at hl
  obtain ⟨l⟩ := cs
  simp only at hl k0 k1
  rw [cEl] at k0 k1
  have e1 : l = clN [e, f] := by
    have s : l = (l.drop 0).take 5 ++ (l.drop 5).take 5 := by
      rw [List.drop_zero, List.take_of_length_le (l := l.drop 5) (by rw [List.length_drop]; omega), List.take_append_drop]
    rw [s]
    have k0' : (l.drop 0).take 5 = cl5 e := k0
    have k1' : (l.drop 5).take 5 = cl5 f := k1
    rw [k0', k1']
    simp [clN]
  subst e1
  have key : ∀ j v, (clN [e, f])[j]? = some v → W.cell? ⟨g, 0 + j, none⟩ = some v := fun j v hv' => by
    rw [Nat.zero_add, World.var?_cell hg hv j]
    simpa using hv'
  exact ⟨[e, f], key, block_lt_of_cell (by simpa using key 0 _ rfl), hx, hy, trivial⟩
theorem zp_of_reads {W : World} (h : Lib.VarReads Tryd.prog W "loop.example/g00004/impl.zeroPoint" Rows.laid_loop_example_g00004_impl_zeroPoint) : RowN W 0 0 [0, 1] :=
  row_of_reads (sm5 0) (sm5 1) 0 1 gZp tZp h (sm5_ok (by omega) (by omega)) (sm5_ok (by omega) (by omega))
end Go.Proofs.YthapcapiiknjdaaDoor

/-
  Steps: the program's calls on points.
-/
namespace Go.Proofs.YthapcapiiknjdaaDoor
set_option maxRecDepth 100000
open Go Go.RowKit

theorem field_X (x y z t : Nat → Int) (w : World) : (Instr.field 77 (agN [x, y, z, t]) 0).run Tryd.prog w = .ok (agN [x, y, z]) w := by kernel_rfl
/-- A list of bytes that may be read. -/
def RdOk (W : World) (a : Option Addr) (xs : List Int) : Prop := ∃ g, Rd W g a .u8 xs ∧ Byt xs
theorem RdOk.up {W W' : World} {a : Option Addr} {xs : List Int} (h : RdOk W a xs) (n : Below W.heap.size W W') : RdOk W' a xs := by
  obtain ⟨g, r, b⟩ := h
  exact ⟨g, r.up n, b⟩
theorem Two.there {w : World} {p : Nat} {x y : Value} (h : Two w p x y) : w.there p 0 2 := fun j hj => by
  obtain rfl | rfl : j = 0 ∨ j = 1 := by omega
  · exact ⟨by rw [show (⟨p, 0 + 0, none⟩ : Addr) = ⟨p, 0, none⟩ from rfl, h.c0]; rfl, h.f0⟩
  · exact ⟨by rw [show (⟨p, 0 + 1, none⟩ : Addr) = ⟨p, 1, none⟩ from rfl, h.c1]; rfl, h.f1⟩
section
variable {ops : Array Oper} {Q : Exit → Act → World → Prop} {md : Region.Mode} {F : Nat → Fact} {a0 : Act} {w0 : World} {i : Nat} {o : Oper} {ts : Array TypeId}
theorem step_ext (hi : ops[i]? = some o) (p j : Nat) (A B : Int) (hop : o.op = .call { callee := .value (.func 68), args := #[.tmp p], argTypes := ts })
    (hj : waits md ops i j p = true) (hFj : F j = EN [A, B]) (hFi : F i = EN [A, B, 1, A * B]) : StepOk Tryd.prog md ops Q F a0 w0 i :=
  step_oneN hi _ p hop (by kernel_rfl) j _ _ (fun w es _ he => toExt_any w es A B he) hj hFj hFi
theorem step_xadd (TT : HasTw w0 3) {D : Int} (CC : Em5 w0 2 0 D) (hi : ops[i]? = some o) (p q j k : Nat) (X Y Z T X' Y' Z' T' : Int) (hop : o.op = .call { callee := .value (.func 69), args := #[.tmp p, .tmp q], argTypes := ts })
    (hj : waits md ops i j p = true) (hk : waits md ops i k q = true) (hFj : F j = EN [X, Y, Z, T]) (hFk : F k = EN [X', Y', Z', T'])
    (hFi : F i = EN [xaR X Y X' Y' * ybR Z T Z' T' D, yaR X Y X' Y' * xbR Z T Z' T' D, xbR Z T Z' T' D * ybR Z T Z' T' D, xaR X Y X' Y' * yaR X Y X' Y']) : StepOk Tryd.prog md ops Q F a0 w0 i :=
  step_twoN hi _ p q hop (by kernel_rfl) j k _ _ _ (fun w es fs hw he hf => extAdd_any w D es fs T T' X X' Y Y' Z Z' he hf (TT.up hw) (CC.up hw)) hj hk hFj hFk hFi
theorem step_fldX (hi : ops[i]? = some o) (p j : Nat) (A B C T : Int) (hop : o.op = .field 77 (.tmp p) 0)
    (hj : waits md ops i j p = true) (hFj : F j = EN [A, B, C, T]) (hFi : F i = EN [A, B, C]) : StepOk Tryd.prog md ops Q F a0 w0 i := by
  refine step_pure hi fun a w _ _ hf => ?_
  have h1 := hf j p hj
  rw [hFj] at h1
  obtain ⟨es, e1, X⟩ := h1
  obtain ⟨x, y, z, t, rfl, hx, hy, hz, ht⟩ := isN4 X
  refine ⟨agN [x, y, z], ?_, by rw [hFi]; exact ⟨_, rfl, hx, hy, hz, trivial⟩⟩
  have g1 : a.eval (.tmp p) = agN [x, y, z, t] := e1
  simp only [execOp, hop, g1]
  rw [Sem.run_bind, field_X]
  rfl
theorem step_aff (SS : HasSt w0 7) (II : Has3 w0 4 12 5 4) (hi : ops[i]? = some o) (p j : Nat) (X Y Z : Int) (hop : o.op = .call { callee := .value (.func 70), args := #[.tmp p], argTypes := ts })
    (hj : waits md ops i j p = true) (hFj : F j = EN [X, Y, Z]) (hFi : F i = EN [X * Z ^ eInv, Y * Z ^ eInv]) : StepOk Tryd.prog md ops Q F a0 w0 i :=
  step_oneN hi _ p hop (by kernel_rfl) j _ _ (fun w es hw he => toAffine_any w es X Y Z he (SS.up hw) (II.up hw)) hj hFj hFi
theorem step_nega (TT : HasTw w0 3) (hi : ops[i]? = some o) (p j : Nat) (X Y : Int) (hop : o.op = .call { callee := .value (.func 71), args := #[.tmp p], argTypes := ts })
    (hj : waits md ops i j p = true) (hFj : F j = EN [X, Y]) (hFi : F i = EN [0 - X, Y]) : StepOk Tryd.prog md ops Q F a0 w0 i :=
  step_oneN hi _ p hop (by kernel_rfl) j _ _ (fun w es hw he => negA_any w es X Y he (TT.up hw)) hj hFj hFi
theorem step_coord (TT : HasTw w0 3) (SS : HasSt w0 7) (II : Has3 w0 4 12 5 4) (hi : ops[i]? = some o) (p j : Nat) (X Y : Int) (hop : o.op = .call { callee := .value (.func 66), args := #[.tmp p], argTypes := ts })
    (hj : waits md ops i j p = true) (hFj : F j = EN [X, Y]) (hFi : F i = EM ((1 + Y) * (1 - Y) ^ eInv)) : StepOk Tryd.prog md ops Q F a0 w0 i := by
  refine step_call hi _ _ ts hop (by kernel_rfl) fun a w _ hw hF => ?_
  have ea := hF j p hj
  rw [hFj] at ea
  obtain ⟨t, e1, L1⟩ := ea
  show Calls Tryd.prog 66 #[a.tmps.getD p undef] w _
  rw [e1]
  refine (coord_any w t X Y L1 (TT.up hw) (SS.up hw) (II.up hw)).mono ?_
  rintro r w' ⟨s, rfl, L, hn⟩
  rw [hFi]
  exact ⟨_, rfl, hn, s, rfl, L⟩
theorem step_pt (hi : ops[i]? = some o) (p j : Nat) (X Y : Int) (hop : o.op = .call { callee := .value (.func 51), args := #[.tmp p], argTypes := ts })
    (hj : waits md ops i j p = true) (hFj : F j = EN [X, Y]) (hFi : F i = PD w0 (fill (byt (X % PP)) 32) (fill (byt (Y % PP)) 32)) : StepOk Tryd.prog md ops Q F a0 w0 i := by
  refine step_call hi _ _ ts hop (by kernel_rfl) fun a w _ hw hF => ?_
  have ea := hF j p hj
  rw [hFj] at ea
  obtain ⟨t, e1, L1⟩ := ea
  show Calls Tryd.prog 51 #[a.tmps.getD p undef] w _
  rw [e1]
  refine (point_any w t X Y L1).mono ?_
  rintro r w' ⟨⟨b, c, g, b', c', g', rfl, o1, o2, k1, k2, hne⟩, hn⟩
  rw [hFi]
  have z := hw.size
  exact ⟨_, rfl, hn, b, b', c, c', g, g', rfl, o1, o2, by omega, by omega, hne⟩
/-- A struct of two cells is read. -/
theorem step_lP (hi : ops[i]? = some o) (p : Nat) (hop : o.op = .load 24 (.tmp p)) (hp : apart ops p = true) (q : Nat) (h0 : a0.tmps.getD p undef = .pointer (some ⟨q, 0, none⟩)) (u v : Value) (c0 : w0.cell? ⟨q, 0, none⟩ = some u) (c1 : w0.cell? ⟨q, 1, none⟩ = some v) (hF : F i = Fact.eq (.agg #[u, v])) : StepOk Tryd.prog md ops Q F a0 w0 i := by
  obtain ⟨fs, hu⟩ := uP
  refine step_load hi _ _ hop _ 2 hu rfl iP fun a w hb hw _ => ?_
  refine ⟨q, 0, [u, v], (based_at hb p hp).trans h0, fun j x hx => ?_, rfl, by rw [hF]; exact rfl⟩
  have d0 := (hw.cell (block_lt_of_cell c0)).trans c0
  have d1 := (hw.cell (block_lt_of_cell c1)).trans c1
  have hj : j < 2 := (List.getElem?_eq_some_iff.1 hx).1
  obtain rfl | rfl : j = 0 ∨ j = 1 := by omega
  · cases hx
    exact d0
  · cases hx
    exact d1
theorem step_rp (TT : HasTw w0 3) {D : Int} (CC : Em5 w0 2 0 D) (hi : ops[i]? = some o) (p j : Nat) {a a' : Option Addr} {c c' : Nat} {xs ys : List Int} (hop : o.op = .call { callee := .value (.func 60), args := #[.tmp p], argTypes := ts })
    (hj : waits md ops i j p = true) (hX : RdOk w0 a xs) (hY : RdOk w0 a' ys) (hFj : F j = Fact.eq (.agg #[.slice a xs.length c, .slice a' ys.length c'])) (hFi : F i = TB [rpX xs ys, rpY xs ys] (rpB D xs ys)) : StepOk Tryd.prog md ops Q F a0 w0 i := by
  refine step_call hi _ _ ts hop (by kernel_rfl) fun A w _ hw hF => ?_
  have ea := hF j p hj
  rw [hFj] at ea
  show Calls Tryd.prog 60 #[A.tmps.getD p undef] w _
  rw [show A.tmps.getD p undef = _ from ea]
  obtain ⟨g, r1, b1⟩ := hX
  obtain ⟨g', r2, b2⟩ := hY
  refine (readPoint_any w g g' a a' c c' xs ys (r1.up hw) (r2.up hw) b1 b2 D (TT.up hw) (CC.up hw)).mono ?_
  rintro r w' ⟨es, rfl, L, hn⟩
  rw [hFi]
  exact ⟨_, rfl, hn, es, rfl, L⟩
end
end Go.Proofs.YthapcapiiknjdaaDoor

/-
  The program's calls on points, but for scaling and their forms as bytes.
-/
namespace Go.Proofs.YthapcapiiknjdaaDoor
set_option maxRecDepth 100000
open Go Go.RowKit

set_option maxHeartbeats 2000000 in
theorem implValid_any (w : World) (g g' : Nat) (a a' : Option Addr) (c c' : Nat) (xs ys : List Int) (hx : Rd w g a .u8 xs) (hy : Rd w g' a' .u8 ys) (bx : Byt xs) (by' : Byt ys) (D : Int) (TT : HasTw w 3) (CC : Em5 w 2 0 D) :
    Calls Tryd.prog 22 #[.agg #[.slice a xs.length c, .slice a' ys.length c']] w fun r w' => r = .returned (.bool (rpB D xs ys)) ∧ Below w.heap.size w w' := by
  have T := two_cells w (.slice a xs.length c) (.slice a' ys.length c') 24
  have m1 : Below w.heap.size w (w.alloc (.cells #[.slice a xs.length c, .slice a' ys.length c'] 24)) := (Below.refl _ _).alloc (Nat.le_refl _) _
  have s1 : (w.alloc (.cells #[.slice a xs.length c, .slice a' ys.length c'] 24)).heap.size = w.heap.size + 1 := by simp
  have RX : RdOk w a xs := ⟨g, hx, bx⟩
  have RY : RdOk w a' ys := ⟨g', hy, by'⟩
  obtain ⟨CX, CY⟩ := T
  clear hx hy bx by'
  go_enter Tryd.func22, Tryd.ntmps22
  go_upto_region 1 with fail
  generalize w.alloc (.cells #[.slice a xs.length c, .slice a' ys.length c'] 24) = wa at *
  have N := m1
  clear m1 s1
  replace RX := RX.up N
  replace RY := RY.up N
  replace TT := TT.up N
  replace CC := CC.up N
  refine region_newN_asg 58 6 5 3 3 8 4 9 4 _ _ (fun i => [Fact.eq (.agg #[.slice a xs.length c, .slice a' ys.length c']), TB [rpX xs ys, rpY xs ys] (rpB D xs ys), TB [rpX xs ys, rpY xs ys] (rpB D xs ys), EN [rpX xs ys, rpY xs ys], Fact.eq (.bool (rpB D xs ys)), NB wa 10].getD i Fact.no) [rpX xs ys, rpY xs ys] (.bool (rpB D xs ys)) (by kernel_rfl) rfl rfl rfl rfl rfl rfl iA (Nat.zero_lt_succ _) rfl rfl rfl (by kernel_rfl) (by kernel_rfl) (by kernel_rfl) rfl rfl rfl (by decide) (by kernel_rfl) ?_ ?_
  · intro i hi
    obtain rfl | rfl | rfl | rfl | rfl | rfl : i = 0 ∨ i = 1 ∨ i = 2 ∨ i = 3 ∨ i = 4 ∨ i = 5 := by omega
    · exact step_lP rfl 1 rfl (by kernel_rfl) _ rfl _ _ CX CY rfl
    · exact step_rp TT CC rfl 6 0 rfl (by kernel_rfl) RX RY rfl rfl
    · exact step_move rfl 7 1 (by exact Or.inl rfl) (by kernel_rfl) rfl
    · exact step_tx0 rfl 5 2 _ _ rfl (by kernel_rfl) rfl rfl
    · exact step_tx1 rfl 5 2 _ _ rfl (by kernel_rfl) rfl rfl
    · exact step_newA rfl rfl rfl
  intro vs1 q3 W1 v3 b4 l3 n E3 T3
  replace RX := RX.up n
  replace RY := RY.up n
  replace TT := TT.up n
  replace CC := CC.up n
  replace CX := (n.cell (block_lt_of_cell CX)).trans CX
  replace CY := (n.cell (block_lt_of_cell CY)).trans CY
  replace N := nxt N n
  clear n T3 l3
  obtain ⟨ok1, hok1⟩ : ∃ b, b = rpB D xs ys := ⟨_, rfl⟩
  rw [← hok1] at b4
  have HK1 := hide hok1
  clear hok1
  simp only [puts, v3, b4, Act.put, List.setIfInBounds_toArray, List.set_cons_succ, List.set_cons_zero]
  clear v3 b4
  go_wp2
  go_ret
  exact ⟨by rw [← HK1.out]; rfl, N⟩
/-- The opposite point, as bytes. -/
def ngX (D : Int) (xs ys : List Int) : List Int := if rpB D xs ys = true then fill (byt ((0 - rpX xs ys) % PP)) 32 else []
def ngY (D : Int) (xs ys : List Int) : List Int := if rpB D xs ys = true then fill (byt (rpY xs ys % PP)) 32 else []
set_option maxHeartbeats 2000000 in
theorem implNegate_any (w : World) (g g' : Nat) (a a' : Option Addr) (c c' : Nat) (xs ys : List Int) (hx : Rd w g a .u8 xs) (hy : Rd w g' a' .u8 ys) (bx : Byt xs) (by' : Byt ys) (D : Int) (TT : HasTw w 3) (CC : Em5 w 2 0 D) :
    Calls Tryd.prog 35 #[.agg #[.slice a xs.length c, .slice a' ys.length c']] w fun r w' => NewP2 w.heap.size w' r (ngX D xs ys) (ngY D xs ys) ∧ Below w.heap.size w w' := by
  have T := two_cells w (.slice a xs.length c) (.slice a' ys.length c') 24
  have m1 : Below w.heap.size w (w.alloc (.cells #[.slice a xs.length c, .slice a' ys.length c'] 24)) := (Below.refl _ _).alloc (Nat.le_refl _) _
  have s1 : (w.alloc (.cells #[.slice a xs.length c, .slice a' ys.length c'] 24)).heap.size = w.heap.size + 1 := by simp
  have RX : RdOk w a xs := ⟨g, hx, bx⟩
  have RY : RdOk w a' ys := ⟨g', hy, by'⟩
  obtain ⟨CX, CY⟩ := T
  clear hx hy bx by'
  go_enter Tryd.func35, Tryd.ntmps35
  go_upto_region 1 with fail
  generalize w.alloc (.cells #[.slice a xs.length c, .slice a' ys.length c'] 24) = wa at *
  have TZ := Two.new wa (.slice none 0 0) (.slice none 0 0) 24
  have mz : Below wa.heap.size wa (wa.alloc pObj) := (Below.refl _ _).alloc (Nat.le_refl _) _
  rw [s1] at TZ
  have N := nxt m1 mz
  replace CX := (mz.cell (block_lt_of_cell CX)).trans CX
  replace CY := (mz.cell (block_lt_of_cell CY)).trans CY
  obtain ⟨wr, hwr⟩ : ∃ W, W = wa.alloc pObj := ⟨_, rfl⟩
  change Two (wa.alloc pObj) _ _ _ at TZ
  rw [← hwr] at TZ N CX CY
  change Code.wp _ _ _ _ (wa.alloc pObj)
  rw [← hwr]
  clear hwr m1 mz s1
  replace RX := RX.up N
  replace RY := RY.up N
  replace TT := TT.up N
  replace CC := CC.up N
  refine region_newN_asg 58 6 5 3 3 8 4 9 4 _ _ (fun i => [Fact.eq (.agg #[.slice a xs.length c, .slice a' ys.length c']), TB [rpX xs ys, rpY xs ys] (rpB D xs ys), TB [rpX xs ys, rpY xs ys] (rpB D xs ys), EN [rpX xs ys, rpY xs ys], Fact.eq (.bool (rpB D xs ys)), NB wr 10].getD i Fact.no) [rpX xs ys, rpY xs ys] (.bool (rpB D xs ys)) (by kernel_rfl) rfl rfl rfl rfl rfl rfl iA (Nat.zero_lt_succ _) rfl rfl rfl (by kernel_rfl) (by kernel_rfl) (by kernel_rfl) rfl rfl rfl (by decide) (by kernel_rfl) ?_ ?_
  · intro i hi
    obtain rfl | rfl | rfl | rfl | rfl | rfl : i = 0 ∨ i = 1 ∨ i = 2 ∨ i = 3 ∨ i = 4 ∨ i = 5 := by omega
    · exact step_lP rfl 1 rfl (by kernel_rfl) _ rfl _ _ CX CY rfl
    · exact step_rp TT CC rfl 6 0 rfl (by kernel_rfl) RX RY rfl rfl
    · exact step_move rfl 7 1 (by exact Or.inl rfl) (by kernel_rfl) rfl
    · exact step_tx0 rfl 5 2 _ _ rfl (by kernel_rfl) rfl rfl
    · exact step_tx1 rfl 5 2 _ _ rfl (by kernel_rfl) rfl rfl
    · exact step_newA rfl rfl rfl
  intro vs1 q3 W1 v3 b4 l3 n E3 T3
  replace RX := RX.up n
  replace RY := RY.up n
  replace TT := TT.up n
  replace CC := CC.up n
  replace CX := (n.cell (block_lt_of_cell CX)).trans CX
  replace CY := (n.cell (block_lt_of_cell CY)).trans CY
  replace TZ := TZ.up n
  replace N := nxt N n
  clear n T3 l3
  obtain ⟨ok1, hok1⟩ : ∃ b, b = rpB D xs ys := ⟨_, rfl⟩
  rw [← hok1] at b4
  have HK1 := hide hok1
  clear hok1
  simp only [puts, v3, b4, Act.put, List.setIfInBounds_toArray, List.set_cons_succ, List.set_cons_zero]
  clear v3 b4
  cases ok1 with
  | false =>
    have e1 : ngX D xs ys = [] := by unfold ngX; rw [← HK1.out]; rfl
    have e2 : ngY D xs ys = [] := by unfold ngY; rw [← HK1.out]; rfl
    clear E3 RX RY CX CY TT CC
    have c0 := TZ.c0
    have c1 := TZ.c1
    have f0 := TZ.f0
    have f1 := TZ.f1
    have TS := (TZ.set0 (.slice none 0 0)).set1 (.slice none 0 0)
    have NS := (N.setCell (p := ⟨w.heap.size + 1, 0, none⟩) (by show w.heap.size ≤ w.heap.size + 1; omega) (.slice none 0 0)).setCell (p := ⟨w.heap.size + 1, 1, none⟩) (by show w.heap.size ≤ w.heap.size + 1; omega) (.slice none 0 0)
    go_wp2
    have k0 := TS.c0
    have k1 := TS.c1
    exact bodyPost_ret (v := .agg #[.slice none 0 0, .slice none 0 0]) (by simp [results, Tryd.results35, go_sem, k0, k1]) rfl ⟨by rw [e1, e2]; exact NewP2.nil, NS⟩
  | true =>
    have e1 : ngX D xs ys = (fill (byt ((0 - (rpX xs ys)) % PP)) 32) := by unfold ngX; rw [if_pos HK1.out.symm]
    have e2 : ngY D xs ys = (fill (byt ((rpY xs ys) % PP)) 32) := by unfold ngY; rw [if_pos HK1.out.symm]
    go_upto_region 4 with fail
    refine region_putD 3 2 2 15 _ (fun i => [EN [rpX xs ys, rpY xs ys], EN [0 - (rpX xs ys), rpY xs ys], PD W1 (fill (byt ((0 - (rpX xs ys)) % PP)) 32) (fill (byt ((rpY xs ys) % PP)) 32)].getD i Fact.no) (fill (byt ((0 - (rpX xs ys)) % PP)) 32) (fill (byt ((rpY xs ys) % PP)) 32) _ (by kernel_rfl) rfl rfl rfl (by kernel_rfl) rfl TZ.there (by kernel_rfl) rfl ?_ ?_
    · intro i hi
      obtain rfl | rfl | rfl : i = 0 ∨ i = 1 ∨ i = 2 := by omega
      · exact step_lA rfl 3 rfl (by kernel_rfl) _ rfl _ _  E3 rfl
      · exact step_nega TT rfl 13 0 _ _ rfl (by kernel_rfl) rfl rfl
      · exact step_pt rfl 14 1 _ _ rfl (by kernel_rfl) rfl rfl
    intro vsL Wa Wb b b' k k' h h' na rg o1 o2 l1 l2 hne nb
    have z := N.size
    have NS := nb w w.heap.size (nxt N na) (by omega)
    simp only [puts, Act.put, List.setIfInBounds_toArray, List.set_cons_succ, List.set_cons_zero]
    clear na nb N TZ RX RY TT CC E3 CX CY
    obtain ⟨fs, hfs⟩ := uP
    go_wp2
    exact bodyPost_ret (v := .agg #[.slice b _ k, .slice b' _ k']) (results_cell_mid Tryd.results35 _ _ (w.heap.size + 1) [.slice b _ k, .slice b' _ k'] _ rfl rg hfs rfl iP) rfl ⟨by rw [e1, e2]; exact ⟨b, k, h, b', k', h', rfl, o1, o2, by omega, by omega, hne⟩, NS⟩
/-- The sum over its common denominator. -/
def psX (D X Y X' Y' : Int) : Int := xaR X Y X' Y' * ybR 1 (X * Y) 1 (X' * Y') D
def psY (D X Y X' Y' : Int) : Int := yaR X Y X' Y' * xbR 1 (X * Y) 1 (X' * Y') D
def psZ (D X Y X' Y' : Int) : Int := xbR 1 (X * Y) 1 (X' * Y') D * ybR 1 (X * Y) 1 (X' * Y') D
def adX (D : Int) (xs ys us vs : List Int) : List Int := if (rpB D xs ys && rpB D us vs) = true then fill (byt (psX D (rpX xs ys) (rpY xs ys) (rpX us vs) (rpY us vs) * psZ D (rpX xs ys) (rpY xs ys) (rpX us vs) (rpY us vs) ^ eInv % PP)) 32 else []
def adY (D : Int) (xs ys us vs : List Int) : List Int := if (rpB D xs ys && rpB D us vs) = true then fill (byt (psY D (rpX xs ys) (rpY xs ys) (rpX us vs) (rpY us vs) * psZ D (rpX xs ys) (rpY xs ys) (rpX us vs) (rpY us vs) ^ eInv % PP)) 32 else []
set_option maxHeartbeats 4000000 in
theorem implAdd_any (w : World) (g g' : Nat) (a a' : Option Addr) (c c' : Nat) (xs ys : List Int) (hx : Rd w g a .u8 xs) (hy : Rd w g' a' .u8 ys) (bx : Byt xs) (by' : Byt ys) (g2 g2' : Nat) (a2 a2' : Option Addr) (c2 c2' : Nat) (us vs : List Int) (hu : Rd w g2 a2 .u8 us) (hv : Rd w g2' a2' .u8 vs) (bu : Byt us) (bv : Byt vs) (D : Int) (TT : HasTw w 3) (CC : Em5 w 2 0 D) (SS : HasSt w 7) (II : Has3 w 4 12 5 4) :
    Calls Tryd.prog 33 #[.agg #[.slice a xs.length c, .slice a' ys.length c'], .agg #[.slice a2 us.length c2, .slice a2' vs.length c2']] w fun r w' => NewP2 w.heap.size w' r (adX D xs ys us vs) (adY D xs ys us vs) ∧ Below w.heap.size w w' := by
  have T := two_cells w (.slice a xs.length c) (.slice a' ys.length c') 24
  have m1 : Below w.heap.size w (w.alloc (.cells #[.slice a xs.length c, .slice a' ys.length c'] 24)) := (Below.refl _ _).alloc (Nat.le_refl _) _
  have s1 : (w.alloc (.cells #[.slice a xs.length c, .slice a' ys.length c'] 24)).heap.size = w.heap.size + 1 := by simp
  have RX : RdOk w a xs := ⟨g, hx, bx⟩
  have RY : RdOk w a' ys := ⟨g', hy, by'⟩
  obtain ⟨CX, CY⟩ := T
  clear hx hy bx by'
  have RU : RdOk w a2 us := ⟨g2, hu, bu⟩
  have RV : RdOk w a2' vs := ⟨g2', hv, bv⟩
  clear hu hv bu bv
  go_enter Tryd.func33, Tryd.ntmps33
  go_upto_region 1 with fail
  generalize w.alloc (.cells #[.slice a xs.length c, .slice a' ys.length c'] 24) = wa at *
  have T' := two_cells wa (.slice a2 us.length c2) (.slice a2' vs.length c2') 24
  have m2 : Below wa.heap.size wa (wa.alloc (.cells #[.slice a2 us.length c2, .slice a2' vs.length c2'] 24)) := (Below.refl _ _).alloc (Nat.le_refl _) _
  have s2 : (wa.alloc (.cells #[.slice a2 us.length c2, .slice a2' vs.length c2'] 24)).heap.size = w.heap.size + 1 + 1 := by simp [s1]
  obtain ⟨CU, CV⟩ := T'
  rw [s1] at CU CV
  replace CX := (m2.cell (block_lt_of_cell CX)).trans CX
  replace CY := (m2.cell (block_lt_of_cell CY)).trans CY
  generalize wa.alloc (.cells #[.slice a2 us.length c2, .slice a2' vs.length c2'] 24) = wb at *
  have TZ := Two.new wb (.slice none 0 0) (.slice none 0 0) 24
  have mz : Below wb.heap.size wb (wb.alloc pObj) := (Below.refl _ _).alloc (Nat.le_refl _) _
  rw [s2] at TZ
  have N := nxt (nxt m1 m2) mz
  replace CX := (mz.cell (block_lt_of_cell CX)).trans CX
  replace CY := (mz.cell (block_lt_of_cell CY)).trans CY
  replace CU := (mz.cell (block_lt_of_cell CU)).trans CU
  replace CV := (mz.cell (block_lt_of_cell CV)).trans CV
  obtain ⟨wr, hwr⟩ : ∃ W, W = wb.alloc pObj := ⟨_, rfl⟩
  change Two (wb.alloc pObj) _ _ _ at TZ
  rw [← hwr] at TZ N CX CY CU CV
  change Code.wp _ _ _ _ (wb.alloc pObj)
  rw [← hwr]
  clear hwr m1 mz s1 m2 s2
  replace RX := RX.up N
  replace RY := RY.up N
  replace RU := RU.up N
  replace RV := RV.up N
  replace TT := TT.up N
  replace CC := CC.up N
  replace SS := SS.up N
  replace II := II.up N
  refine region_newN_asg 58 6 5 3 5 12 4 13 6 _ _ (fun i => [Fact.eq (.agg #[.slice a xs.length c, .slice a' ys.length c']), TB [rpX xs ys, rpY xs ys] (rpB D xs ys), TB [rpX xs ys, rpY xs ys] (rpB D xs ys), EN [rpX xs ys, rpY xs ys], Fact.eq (.bool (rpB D xs ys)), NB wr 10].getD i Fact.no) [rpX xs ys, rpY xs ys] (.bool (rpB D xs ys)) (by kernel_rfl) rfl rfl rfl rfl rfl rfl iA (Nat.zero_lt_succ _) rfl rfl rfl (by kernel_rfl) (by kernel_rfl) (by kernel_rfl) rfl rfl rfl (by decide) (by kernel_rfl) ?_ ?_
  · intro i hi
    obtain rfl | rfl | rfl | rfl | rfl | rfl : i = 0 ∨ i = 1 ∨ i = 2 ∨ i = 3 ∨ i = 4 ∨ i = 5 := by omega
    · exact step_lP rfl 2 rfl (by kernel_rfl) _ rfl _ _ CX CY rfl
    · exact step_rp TT CC rfl 10 0 rfl (by kernel_rfl) RX RY rfl rfl
    · exact step_move rfl 11 1 (by exact Or.inl rfl) (by kernel_rfl) rfl
    · exact step_tx0 rfl 9 2 _ _ rfl (by kernel_rfl) rfl rfl
    · exact step_tx1 rfl 9 2 _ _ rfl (by kernel_rfl) rfl rfl
    · exact step_newA rfl rfl rfl
  intro vs1 q5 W1 v5 b6 l5 n E5 T5
  replace RX := RX.up n
  replace RY := RY.up n
  replace RU := RU.up n
  replace RV := RV.up n
  replace TT := TT.up n
  replace CC := CC.up n
  replace SS := SS.up n
  replace II := II.up n
  replace CX := (n.cell (block_lt_of_cell CX)).trans CX
  replace CY := (n.cell (block_lt_of_cell CY)).trans CY
  replace CU := (n.cell (block_lt_of_cell CU)).trans CU
  replace CV := (n.cell (block_lt_of_cell CV)).trans CV
  replace TZ := TZ.up n
  replace N := nxt N n
  clear n T5 l5
  obtain ⟨ok1, hok1⟩ : ∃ b, b = rpB D xs ys := ⟨_, rfl⟩
  rw [← hok1] at b6
  have HK1 := hide hok1
  clear hok1
  simp only [puts, v5, b6, Act.put, List.setIfInBounds_toArray, List.set_cons_succ, List.set_cons_zero]
  clear v5 b6
  go_upto_region 2 with fail
  refine region_newN_asg 58 6 5 3 7 17 4 18 8 _ _ (fun i => [Fact.eq (.agg #[.slice a2 us.length c2, .slice a2' vs.length c2']), TB [rpX us vs, rpY us vs] (rpB D us vs), TB [rpX us vs, rpY us vs] (rpB D us vs), EN [rpX us vs, rpY us vs], Fact.eq (.bool (rpB D us vs)), NB W1 10].getD i Fact.no) [rpX us vs, rpY us vs] (.bool (rpB D us vs)) (by kernel_rfl) rfl rfl rfl rfl rfl rfl iA (Nat.zero_lt_succ _) rfl rfl rfl (by kernel_rfl) (by kernel_rfl) (by kernel_rfl) rfl rfl rfl (by decide) (by kernel_rfl) ?_ ?_
  · intro i hi
    obtain rfl | rfl | rfl | rfl | rfl | rfl : i = 0 ∨ i = 1 ∨ i = 2 ∨ i = 3 ∨ i = 4 ∨ i = 5 := by omega
    · exact step_lP rfl 3 rfl (by kernel_rfl) _ rfl _ _ CU CV rfl
    · exact step_rp TT CC rfl 15 0 rfl (by kernel_rfl) RU RV rfl rfl
    · exact step_move rfl 16 1 (by exact Or.inl rfl) (by kernel_rfl) rfl
    · exact step_tx0 rfl 14 2 _ _ rfl (by kernel_rfl) rfl rfl
    · exact step_tx1 rfl 14 2 _ _ rfl (by kernel_rfl) rfl rfl
    · exact step_newA rfl rfl rfl
  intro vs2 q7 W2 v7 b8 l7 n E7 T7
  replace RX := RX.up n
  replace RY := RY.up n
  replace RU := RU.up n
  replace RV := RV.up n
  replace TT := TT.up n
  replace CC := CC.up n
  replace SS := SS.up n
  replace II := II.up n
  replace E5 := E5.up n
  replace CX := (n.cell (block_lt_of_cell CX)).trans CX
  replace CY := (n.cell (block_lt_of_cell CY)).trans CY
  replace CU := (n.cell (block_lt_of_cell CU)).trans CU
  replace CV := (n.cell (block_lt_of_cell CV)).trans CV
  replace TZ := TZ.up n
  replace N := nxt N n
  clear n T7 l7
  obtain ⟨ok2, hok2⟩ : ∃ b, b = rpB D us vs := ⟨_, rfl⟩
  rw [← hok2] at b8
  have HK2 := hide hok2
  clear hok2
  simp only [puts, v7, b8, Act.put, List.setIfInBounds_toArray, List.set_cons_succ, List.set_cons_zero]
  clear v7 b8
  cases ok1 with
  | false =>
    have e1 : adX D xs ys us vs = [] := by unfold adX; rw [← HK1.out]; rfl
    have e2 : adY D xs ys us vs = [] := by unfold adY; rw [← HK1.out]; rfl
    clear E5 E7 RX RY RU RV CX CY CU CV TT CC SS II
    clear HK2
    cases ok2
    all_goals
      have c0 := TZ.c0
      have c1 := TZ.c1
      have f0 := TZ.f0
      have f1 := TZ.f1
      have TS := (TZ.set0 (.slice none 0 0)).set1 (.slice none 0 0)
      have NS := (N.setCell (p := ⟨w.heap.size + 1 + 1, 0, none⟩) (by show w.heap.size ≤ w.heap.size + 1 + 1; omega) (.slice none 0 0)).setCell (p := ⟨w.heap.size + 1 + 1, 1, none⟩) (by show w.heap.size ≤ w.heap.size + 1 + 1; omega) (.slice none 0 0)
      go_wp2
      have k0 := TS.c0
      have k1 := TS.c1
      exact bodyPost_ret (v := .agg #[.slice none 0 0, .slice none 0 0]) (by simp [results, Tryd.results33, go_sem, k0, k1]) rfl ⟨by rw [e1, e2]; exact NewP2.nil, NS⟩
  | true =>
    cases ok2 with
    | false =>
      have e1 : adX D xs ys us vs = [] := by unfold adX; rw [← HK1.out, ← HK2.out]; rfl
      have e2 : adY D xs ys us vs = [] := by unfold adY; rw [← HK1.out, ← HK2.out]; rfl
      clear E5 E7 RX RY RU RV CX CY CU CV TT CC SS II
      have c0 := TZ.c0
      have c1 := TZ.c1
      have f0 := TZ.f0
      have f1 := TZ.f1
      have TS := (TZ.set0 (.slice none 0 0)).set1 (.slice none 0 0)
      have NS := (N.setCell (p := ⟨w.heap.size + 1 + 1, 0, none⟩) (by show w.heap.size ≤ w.heap.size + 1 + 1; omega) (.slice none 0 0)).setCell (p := ⟨w.heap.size + 1 + 1, 1, none⟩) (by show w.heap.size ≤ w.heap.size + 1 + 1; omega) (.slice none 0 0)
      go_wp2
      have k0 := TS.c0
      have k1 := TS.c1
      exact bodyPost_ret (v := .agg #[.slice none 0 0, .slice none 0 0]) (by simp [results, Tryd.results33, go_sem, k0, k1]) rfl ⟨by rw [e1, e2]; exact NewP2.nil, NS⟩
    | true =>
      have hb : (rpB D xs ys && rpB D us vs) = true := by rw [← HK1.out, ← HK2.out]; rfl
      have e1 : adX D xs ys us vs = (fill (byt (((xaR (rpX xs ys) (rpY xs ys) (rpX us vs) (rpY us vs) * ybR (1) ((rpX xs ys) * (rpY xs ys)) (1) ((rpX us vs) * (rpY us vs)) D) * (xbR (1) ((rpX xs ys) * (rpY xs ys)) (1) ((rpX us vs) * (rpY us vs)) D * ybR (1) ((rpX xs ys) * (rpY xs ys)) (1) ((rpX us vs) * (rpY us vs)) D) ^ eInv) % PP)) 32) := by unfold adX; rw [if_pos hb]; rfl
      have e2 : adY D xs ys us vs = (fill (byt (((yaR (rpX xs ys) (rpY xs ys) (rpX us vs) (rpY us vs) * xbR (1) ((rpX xs ys) * (rpY xs ys)) (1) ((rpX us vs) * (rpY us vs)) D) * (xbR (1) ((rpX xs ys) * (rpY xs ys)) (1) ((rpX us vs) * (rpY us vs)) D * ybR (1) ((rpX xs ys) * (rpY xs ys)) (1) ((rpX us vs) * (rpY us vs)) D) ^ eInv) % PP)) 32) := by unfold adY; rw [if_pos hb]; rfl
      go_upto_region 5 with fail
      refine region_putD 8 7 4 33 _ (fun i => [EN [rpX xs ys, rpY xs ys], EN [rpX xs ys, rpY xs ys, 1, (rpX xs ys) * (rpY xs ys)], EN [rpX us vs, rpY us vs], EN [rpX us vs, rpY us vs, 1, (rpX us vs) * (rpY us vs)], EN [xaR (rpX xs ys) (rpY xs ys) (rpX us vs) (rpY us vs) * ybR (1) ((rpX xs ys) * (rpY xs ys)) (1) ((rpX us vs) * (rpY us vs)) D, yaR (rpX xs ys) (rpY xs ys) (rpX us vs) (rpY us vs) * xbR (1) ((rpX xs ys) * (rpY xs ys)) (1) ((rpX us vs) * (rpY us vs)) D, xbR (1) ((rpX xs ys) * (rpY xs ys)) (1) ((rpX us vs) * (rpY us vs)) D * ybR (1) ((rpX xs ys) * (rpY xs ys)) (1) ((rpX us vs) * (rpY us vs)) D, xaR (rpX xs ys) (rpY xs ys) (rpX us vs) (rpY us vs) * yaR (rpX xs ys) (rpY xs ys) (rpX us vs) (rpY us vs)], EN [xaR (rpX xs ys) (rpY xs ys) (rpX us vs) (rpY us vs) * ybR (1) ((rpX xs ys) * (rpY xs ys)) (1) ((rpX us vs) * (rpY us vs)) D, yaR (rpX xs ys) (rpY xs ys) (rpX us vs) (rpY us vs) * xbR (1) ((rpX xs ys) * (rpY xs ys)) (1) ((rpX us vs) * (rpY us vs)) D, xbR (1) ((rpX xs ys) * (rpY xs ys)) (1) ((rpX us vs) * (rpY us vs)) D * ybR (1) ((rpX xs ys) * (rpY xs ys)) (1) ((rpX us vs) * (rpY us vs)) D], EN [(xaR (rpX xs ys) (rpY xs ys) (rpX us vs) (rpY us vs) * ybR (1) ((rpX xs ys) * (rpY xs ys)) (1) ((rpX us vs) * (rpY us vs)) D) * (xbR (1) ((rpX xs ys) * (rpY xs ys)) (1) ((rpX us vs) * (rpY us vs)) D * ybR (1) ((rpX xs ys) * (rpY xs ys)) (1) ((rpX us vs) * (rpY us vs)) D) ^ eInv, (yaR (rpX xs ys) (rpY xs ys) (rpX us vs) (rpY us vs) * xbR (1) ((rpX xs ys) * (rpY xs ys)) (1) ((rpX us vs) * (rpY us vs)) D) * (xbR (1) ((rpX xs ys) * (rpY xs ys)) (1) ((rpX us vs) * (rpY us vs)) D * ybR (1) ((rpX xs ys) * (rpY xs ys)) (1) ((rpX us vs) * (rpY us vs)) D) ^ eInv], PD W2 (fill (byt (((xaR (rpX xs ys) (rpY xs ys) (rpX us vs) (rpY us vs) * ybR (1) ((rpX xs ys) * (rpY xs ys)) (1) ((rpX us vs) * (rpY us vs)) D) * (xbR (1) ((rpX xs ys) * (rpY xs ys)) (1) ((rpX us vs) * (rpY us vs)) D * ybR (1) ((rpX xs ys) * (rpY xs ys)) (1) ((rpX us vs) * (rpY us vs)) D) ^ eInv) % PP)) 32) (fill (byt (((yaR (rpX xs ys) (rpY xs ys) (rpX us vs) (rpY us vs) * xbR (1) ((rpX xs ys) * (rpY xs ys)) (1) ((rpX us vs) * (rpY us vs)) D) * (xbR (1) ((rpX xs ys) * (rpY xs ys)) (1) ((rpX us vs) * (rpY us vs)) D * ybR (1) ((rpX xs ys) * (rpY xs ys)) (1) ((rpX us vs) * (rpY us vs)) D) ^ eInv) % PP)) 32)].getD i Fact.no) (fill (byt (((xaR (rpX xs ys) (rpY xs ys) (rpX us vs) (rpY us vs) * ybR (1) ((rpX xs ys) * (rpY xs ys)) (1) ((rpX us vs) * (rpY us vs)) D) * (xbR (1) ((rpX xs ys) * (rpY xs ys)) (1) ((rpX us vs) * (rpY us vs)) D * ybR (1) ((rpX xs ys) * (rpY xs ys)) (1) ((rpX us vs) * (rpY us vs)) D) ^ eInv) % PP)) 32) (fill (byt (((yaR (rpX xs ys) (rpY xs ys) (rpX us vs) (rpY us vs) * xbR (1) ((rpX xs ys) * (rpY xs ys)) (1) ((rpX us vs) * (rpY us vs)) D) * (xbR (1) ((rpX xs ys) * (rpY xs ys)) (1) ((rpX us vs) * (rpY us vs)) D * ybR (1) ((rpX xs ys) * (rpY xs ys)) (1) ((rpX us vs) * (rpY us vs)) D) ^ eInv) % PP)) 32) _ (by kernel_rfl) rfl rfl rfl (by kernel_rfl) rfl TZ.there (by kernel_rfl) rfl ?_ ?_
      · intro i hi
        obtain rfl | rfl | rfl | rfl | rfl | rfl | rfl | rfl : i = 0 ∨ i = 1 ∨ i = 2 ∨ i = 3 ∨ i = 4 ∨ i = 5 ∨ i = 6 ∨ i = 7 := by omega
        · exact step_lA rfl 5 rfl (by kernel_rfl) _ rfl _ _  E5 rfl
        · exact step_ext rfl 26 0 _ _ rfl (by kernel_rfl) rfl rfl
        · exact step_lA rfl 7 rfl (by kernel_rfl) _ rfl _ _  E7 rfl
        · exact step_ext rfl 28 2 _ _ rfl (by kernel_rfl) rfl rfl
        · exact step_xadd TT CC rfl 27 29 1 3 _ _ _ _ _ _ _ _ rfl (by kernel_rfl) (by kernel_rfl) rfl rfl rfl
        · exact step_fldX rfl 30 4 _ _ _ _ rfl (by kernel_rfl) rfl rfl
        · exact step_aff SS II rfl 31 5 _ _ _ rfl (by kernel_rfl) rfl rfl
        · exact step_pt rfl 32 6 _ _ rfl (by kernel_rfl) rfl rfl
      intro vsL Wa Wb b b' k k' h h' na rg o1 o2 l1 l2 hne nb
      have z := N.size
      have NS := nb w w.heap.size (nxt N na) (by omega)
      simp only [puts, Act.put, List.setIfInBounds_toArray, List.set_cons_succ, List.set_cons_zero]
      clear na nb N TZ RX RY RU RV TT CC SS II E5 E7 CX CY CU CV
      obtain ⟨fs, hfs⟩ := uP
      go_wp2
      exact bodyPost_ret (v := .agg #[.slice b _ k, .slice b' _ k']) (results_cell_mid Tryd.results33 _ _ (w.heap.size + 1 + 1) [.slice b _ k, .slice b' _ k'] _ rfl rg hfs rfl iP) rfl ⟨by rw [e1, e2]; exact ⟨b, k, h, b', k', h', rfl, o1, o2, by omega, by omega, hne⟩, NS⟩
end Go.Proofs.YthapcapiiknjdaaDoor

/-
  Steps of the laws on points: structs of two lists read, copied, held against each other.
-/
namespace Go.Proofs.YthapcapiiknjdaaDoor
set_option maxRecDepth 100000
open Go Go.RowKit

theorem iLP : (Tryd.prog.info? 29).map (·.size) = some 2 := by kernel_rfl
theorem uLP : ∃ fs, Tryd.prog.underlying 29 = some (.struct fs) := ⟨_, Tryd.underlying29⟩
/-- A point of these two lists in blocks of their own. -/
def PR (xs ys : List Int) : Fact := ⟨fun v w => ∃ p q : Nat, v = .agg #[.slice (some ⟨p, 0, none⟩) xs.length xs.length, .slice (some ⟨q, 0, none⟩) ys.length ys.length] ∧ Blk w p .u8 xs ∧ Blk w q .u8 ys, fun n h => by
  obtain ⟨p, q, e, h1, h2⟩ := h
  exact ⟨p, q, e, h1.up n, h2.up n⟩⟩
section
variable {ops : Array Oper} {Q : Exit → Act → World → Prop} {md : Region.Mode} {F : Nat → Fact} {a0 : Act} {w0 : World} {i : Nat} {o : Oper} {ts : Array TypeId}
theorem step_l2 (ty : TypeId) (hu : ∃ fs, Tryd.prog.underlying ty = some (.struct fs)) (hs : (Tryd.prog.info? ty).map (·.size) = some 2) (hi : ops[i]? = some o) (p : Nat) (hop : o.op = .load ty (.tmp p)) (hp : apart ops p = true) (q : Nat) (h0 : a0.tmps.getD p undef = .pointer (some ⟨q, 0, none⟩)) (u v : Value) (T : Two w0 q u v) (hF : F i = Fact.eq (.agg #[u, v])) : StepOk Tryd.prog md ops Q F a0 w0 i := by
  obtain ⟨fs, hu⟩ := hu
  refine step_load hi _ _ hop _ 2 hu rfl hs fun a w hb hw _ => ?_
  refine ⟨q, 0, [u, v], (based_at hb p hp).trans h0, fun j x hx => ?_, rfl, by rw [hF]; exact rfl⟩
  have T' := T.up hw
  have hj : j < 2 := (List.getElem?_eq_some_iff.1 hx).1
  obtain rfl | rfl : j = 0 ∨ j = 1 := by omega
  · cases hx
    exact T'.c0
  · cases hx
    exact T'.c1
theorem step_toP (hi : ops[i]? = some o) (p j : Nat) {a a' : Option Addr} {c c' : Nat} {xs ys : List Int} (hop : o.op = .call { callee := .value (.func 21), args := #[.tmp p], argTypes := ts })
    (hj : waits md ops i j p = true) {g g' : Nat} (hx : Rd w0 g a .u8 xs) (hy : Rd w0 g' a' .u8 ys) (hn : xs.length ≤ 1048576) (hm : ys.length ≤ 1048576) (hFj : F j = Fact.eq (.agg #[.slice a xs.length c, .slice a' ys.length c'])) (hFi : F i = PR xs ys) : StepOk Tryd.prog md ops Q F a0 w0 i := by
  refine step_call hi _ _ ts hop (by kernel_rfl) fun A w _ hw hF => ?_
  have ea := hF j p hj
  rw [hFj] at ea
  show Calls Tryd.prog 21 #[A.tmps.getD p undef] w _
  rw [show A.tmps.getD p undef = _ from ea]
  refine (toPoint_any w g g' a a' c c' xs ys (hx.up hw) (hy.up hw) hn hm).mono ?_
  rintro r w' ⟨p, q, rfl, b1, b2, _, _, hn⟩
  rw [hFi]
  exact ⟨_, rfl, hn, p, q, rfl, b1, b2⟩
theorem step_eqP (hi : ops[i]? = some o) (p q j k : Nat) {a a' : Option Addr} {c c' : Nat} {xs ys : List Int} (hop : o.op = .call { callee := .value (.func 16), args := #[.tmp p, .tmp q], argTypes := ts })
    (hj : waits md ops i j p = true) (hk : waits md ops i k q = true) {g g' : Nat} (hP : PrP w0 g a xs g' a' ys) (hn : xs.length ≤ 1048576) (hm : ys.length ≤ 1048576) (hFj : F j = Fact.eq (.agg #[.slice a xs.length c, .slice a' ys.length c'])) (hFk : F k = PR xs ys) (hFi : F i = Fact.eq (.bool true)) : StepOk Tryd.prog md ops Q F a0 w0 i := by
  refine step_call hi _ _ ts hop (by kernel_rfl) fun A w _ hw hF => ?_
  have ea := hF j p hj
  have eb := hF k q hk
  rw [hFj] at ea
  rw [hFk] at eb
  obtain ⟨p', q', e2, b1, b2⟩ := eb
  show Calls Tryd.prog 16 #[A.tmps.getD p undef, A.tmps.getD q undef] w _
  rw [show A.tmps.getD p undef = _ from ea, e2]
  refine (eqPoint_same w g p' g' q' a _ a' _ c _ c' _ xs ys (hP.up hw) ⟨b1.own0, b2.own0⟩ hn hm).mono ?_
  rintro r w' ⟨rfl, hn⟩
  rw [hFi]
  exact ⟨_, rfl, hn, rfl⟩
end
end Go.Proofs.YthapcapiiknjdaaDoor
