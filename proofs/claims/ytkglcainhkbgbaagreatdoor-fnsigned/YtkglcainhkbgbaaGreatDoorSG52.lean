import Derived.Test.YtkglcainhkbgbaaGreatDoorSG51
import Derived.Test.YtkglcainhkbgbaaGreatDoorSG50
import Derived.Test.YtkglcainhkbgbaaGreatDoorRows
import Derived.Test.YtkglcainhkbgbaaGreatDoorSG47
import Derived.Lib.LaidTab
import Derived.Lib.LaidU8
import Derived.LaidMore
import Derived.Test.YtkglcainhkbgbaaGreatDoorSG46
import Derived.Test.YtkglcainhkbgbaaGreatDoorSG41
import Derived.Test.YtkglcainhkbgbaaGreatDoorSG44
import Derived.Test.YtkglcainhkbgbaaGreatDoorSG49
import Derived.Test.YtkglcainhkbgbaaGreatDoorSG38
import Derived.Test.YtkglcainhkbgbaaGreatDoorSG45
import Derived.Lib.AppendZeros
import Derived.LaidHandle
namespace Go.Proofs.YtkglcainhkbgbaaGreatDoor
set_option maxRecDepth 100000
open Go Go.RowKit Go.Extern.Stop Go.Stop Go.Extern
set_option maxRecDepth 100000 in
set_option maxHeartbeats 8000000 in
theorem as_hit (n : Int) (s : ByteArray) (q : Nat) (old : Value) (w : World) (hg : w.cell? ⟨1, 0, none⟩ = some (.iface 114 (.agg #[.pointer (some ⟨14, 48, none⟩)]))) (ht0 : w.cell? ⟨q, 0, none⟩ = some old) (hf0 : w.frozen? ⟨q, 0, none⟩ = false) :
    Calls Tryz.prog 21 #[.iface 88 (.agg #[.string s, .iface 45 (.int .i64 n)]), .iface 50 (.pointer (some ⟨q, 0, none⟩))] w fun ev w' => ev = .returned (.bool true) ∧ w'.cell? ⟨q, 0, none⟩ = some (.int .i64 n) ∧ Below q w w' := by
  have h6 := @run_callFunc_extern Tryz.prog 39 _ (fun args => ReflectliteValue.unpack (args.getD 0 (.tuple #[]))) Tryz.func39 (by kernel_rfl) (by kernel_rfl) (by kernel_rfl) (by kernel_rfl)
  have h7 := @run_callFunc_extern Tryz.prog 40 _ (ReflectliteValue.methodAny (ReflectliteValue.valueError "reflectlite.Value.Type" 0) (fun t _ _ _ => ReflectliteType.toType t)) Tryz.func40 (by kernel_rfl) (by kernel_rfl) (by kernel_rfl) (by kernel_rfl)
  have h8 := @run_callFunc_extern Tryz.prog 41 _ (ReflectliteValue.method (ReflectliteValue.valueError "reflectlite.Value.IsNil" 0) ReflectliteValue.isNil) Tryz.func41 (by kernel_rfl) (by kernel_rfl) (by kernel_rfl) (by kernel_rfl)
  have h27 := @run_callFunc_extern Tryz.prog 133 _ (ReflectliteType.abiMethod fun t => do pure (.int .u8 (← Rtype.kind t))) Tryz.func133 (by kernel_rfl) (by kernel_rfl) (by kernel_rfl) (by kernel_rfl)
  have h37 := @run_callFunc_extern Tryz.prog 147 _ (ReflectliteType.method ReflectliteType.elem) Tryz.func147 (by kernel_rfl) (by kernel_rfl) (by kernel_rfl) (by kernel_rfl)
  have h38 := @run_callFunc_extern Tryz.prog 148 _ (ReflectliteType.relation "Implements" ReflectliteType.implements_) Tryz.func148 (by kernel_rfl) (by kernel_rfl) (by kernel_rfl) (by kernel_rfl)
  have h10 := @run_callFunc_extern Tryz.prog 61 _ ReflectliteType.typeOf Tryz.func61 (by kernel_rfl) (by kernel_rfl) (by kernel_rfl) (by kernel_rfl)
  have h35 := @run_callFunc_extern Tryz.prog 145 _ (ReflectliteType.relation "AssignableTo" ReflectliteType.assignableTo) Tryz.func145 (by kernel_rfl) (by kernel_rfl) (by kernel_rfl) (by kernel_rfl)
  have h11 := @run_callFunc_extern Tryz.prog 62 _ (ReflectliteValue.method (ReflectliteValue.valueError "reflectlite.Value.Elem" 0) ReflectliteValue.elem) Tryz.func62 (by kernel_rfl) (by kernel_rfl) (by kernel_rfl) (by kernel_rfl)
  have h12 := @run_callFunc_extern Tryz.prog 63 _ ReflectliteValue.set Tryz.func63 (by kernel_rfl) (by kernel_rfl) (by kernel_rfl) (by kernel_rfl)
  have tO := As.typeOfF
  have tS := As.typeOfS
  have mA := As.methodAssignableTo
  have aF := As.assignableF
  have aS := As.assignableS
  have vF := As.valueOfF
  have f6 := As.valueOfP
  have f7 := As.typeP
  have mK := As.methodKind
  have mE := As.methodElem
  have mI := As.methodImplements
  have mU := As.methodUnwrap
  have kP := As.kindP
  have kF := As.kindF
  have eP := As.elemP
  have iF := As.implementsF
  have nS := As.noAsS
  have uS := As.unwS
  have hlt : 1 < w.heap.size := block_lt_of_cell hg
  have htl : q < w.heap.size := block_lt_of_cell ht0
  have lt1 : ∀ (o : Obj) (W : World) (a : Addr), a.block < W.heap.size → (W.alloc o).cell? a = W.cell? a := fun o W a h => World.cell?_alloc_lt W o a h
  have n8 := As.isNilP ⟨w.heap.size, 0, none⟩ ⟨q, 0, none⟩ ((w.alloc (.cells #[.pointer (some ⟨q, 0, none⟩)] 50)).alloc (.cells #[.pointer (some ⟨14, 50, none⟩), .pointer (some ⟨w.heap.size, 0, none⟩), .int .u64 150] 69)) (by rw [World.cell?_alloc_lt _ _ ⟨w.heap.size, 0, none⟩ (by simp)]; simp [World.cell?_alloc_at])
  have hg2 : ((w.alloc (.cells #[.pointer (some ⟨q, 0, none⟩)] 50)).alloc (.cells #[.pointer (some ⟨14, 50, none⟩), .pointer (some ⟨w.heap.size, 0, none⟩), .int .u64 150] 69)).cell? ⟨1, 0, none⟩ = some (.iface 114 (.agg #[.pointer (some ⟨14, 48, none⟩)])) := by
    rw [World.cell?_alloc_lt _ _ ⟨1, 0, none⟩ (by simp only [World.size_alloc]; omega), World.cell?_alloc_lt _ _ ⟨1, 0, none⟩ hlt]; exact hg
  have el := As.elemV ⟨w.heap.size, 0, none⟩ ⟨q, 0, none⟩ ((((w.alloc (.cells #[.pointer (some ⟨q, 0, none⟩)] 50)).alloc (.cells #[.pointer (some ⟨14, 50, none⟩), .pointer (some ⟨w.heap.size, 0, none⟩), .int .u64 150] 69)).alloc (.cells #[.pointer (some ⟨14, 50, none⟩), .pointer (some ⟨w.heap.size, 0, none⟩), .int .u64 150] 69)).alloc (.cells #[.string s, .iface 45 (.int .i64 n)] 88)) (by
    rw [World.cell?_alloc_lt _ _ ⟨w.heap.size, 0, none⟩ (by simp; omega), World.cell?_alloc_lt _ _ ⟨w.heap.size, 0, none⟩ (by simp; omega), World.cell?_alloc_lt _ _ ⟨w.heap.size, 0, none⟩ (by simp)]; simp [World.cell?_alloc_at])
  have st := As.setF ⟨q, 0, none⟩ ⟨w.heap.size + 1 + 1 + 1 + 1, 0, none⟩ n old (((((w.alloc (.cells #[.pointer (some ⟨q, 0, none⟩)] 50)).alloc (.cells #[.pointer (some ⟨14, 50, none⟩), .pointer (some ⟨w.heap.size, 0, none⟩), .int .u64 150] 69)).alloc (.cells #[.pointer (some ⟨14, 50, none⟩), .pointer (some ⟨w.heap.size, 0, none⟩), .int .u64 150] 69)).alloc (.cells #[.string s, .iface 45 (.int .i64 n)] 88)).alloc (.cells #[.int .i64 n] 45))
    (by rw [World.cell?_alloc_at _ _ _ _ (by simp)]; rfl)
    (by rw [World.cell?_alloc_lt _ _ ⟨q, 0, none⟩ (by simp; omega), World.cell?_alloc_lt _ _ ⟨q, 0, none⟩ (by simp; omega), World.cell?_alloc_lt _ _ ⟨q, 0, none⟩ (by simp; omega), World.cell?_alloc_lt _ _ ⟨q, 0, none⟩ (by simp; omega), World.cell?_alloc_lt _ _ ⟨q, 0, none⟩ htl]; exact ht0)
    (by rw [World.frozen?_alloc_old _ _ ⟨q, 0, none⟩ (by simp; omega), World.frozen?_alloc_old _ _ ⟨q, 0, none⟩ (by simp; omega), World.frozen?_alloc_old _ _ ⟨q, 0, none⟩ (by simp; omega), World.frozen?_alloc_old _ _ ⟨q, 0, none⟩ (by simp; omega), World.frozen?_alloc_old _ _ ⟨q, 0, none⟩ (Nat.ne_of_lt htl)]; exact hf0)
  have FIN : Hid (((((((w.alloc (.cells #[.pointer (some ⟨q, 0, none⟩)] 50)).alloc (.cells #[.pointer (some ⟨14, 50, none⟩), .pointer (some ⟨w.heap.size, 0, none⟩), .int .u64 150] 69)).alloc (.cells #[.pointer (some ⟨14, 50, none⟩), .pointer (some ⟨w.heap.size, 0, none⟩), .int .u64 150] 69)).alloc (.cells #[.string s, .iface 45 (.int .i64 n)] 88)).alloc (.cells #[.int .i64 n] 45)).setCell ⟨q, 0, none⟩ (.int .i64 n)).cell? ⟨q, 0, none⟩ = some (.int .i64 n) ∧ Below q w ((((((w.alloc (.cells #[.pointer (some ⟨q, 0, none⟩)] 50)).alloc (.cells #[.pointer (some ⟨14, 50, none⟩), .pointer (some ⟨w.heap.size, 0, none⟩), .int .u64 150] 69)).alloc (.cells #[.pointer (some ⟨14, 50, none⟩), .pointer (some ⟨w.heap.size, 0, none⟩), .int .u64 150] 69)).alloc (.cells #[.string s, .iface 45 (.int .i64 n)] 88)).alloc (.cells #[.int .i64 n] 45)).setCell ⟨q, 0, none⟩ (.int .i64 n))) := by
    have c5 : (((((w.alloc (.cells #[.pointer (some ⟨q, 0, none⟩)] 50)).alloc (.cells #[.pointer (some ⟨14, 50, none⟩), .pointer (some ⟨w.heap.size, 0, none⟩), .int .u64 150] 69)).alloc (.cells #[.pointer (some ⟨14, 50, none⟩), .pointer (some ⟨w.heap.size, 0, none⟩), .int .u64 150] 69)).alloc (.cells #[.string s, .iface 45 (.int .i64 n)] 88)).alloc (.cells #[.int .i64 n] 45)).cell? ⟨q, 0, none⟩ = some old := by rw [World.cell?_alloc_lt _ _ ⟨q, 0, none⟩ (by simp; omega), World.cell?_alloc_lt _ _ ⟨q, 0, none⟩ (by simp; omega), World.cell?_alloc_lt _ _ ⟨q, 0, none⟩ (by simp; omega), World.cell?_alloc_lt _ _ ⟨q, 0, none⟩ (by simp; omega), World.cell?_alloc_lt _ _ ⟨q, 0, none⟩ htl]; exact ht0
    refine ⟨World.cell?_setCell_same _ _ _ c5, ?_⟩
    have b : Below w.heap.size w (((((w.alloc (.cells #[.pointer (some ⟨q, 0, none⟩)] 50)).alloc (.cells #[.pointer (some ⟨14, 50, none⟩), .pointer (some ⟨w.heap.size, 0, none⟩), .int .u64 150] 69)).alloc (.cells #[.pointer (some ⟨14, 50, none⟩), .pointer (some ⟨w.heap.size, 0, none⟩), .int .u64 150] 69)).alloc (.cells #[.string s, .iface 45 (.int .i64 n)] 88)).alloc (.cells #[.int .i64 n] 45)) := (((((Below.refl _ _).alloc (Nat.le_refl _) _).alloc (by simp) _).alloc (by simp; omega) _).alloc (by simp; omega) _).alloc (by simp; omega) _
    have b' := b.mono (show q ≤ w.heap.size by omega)
    exact b'.setCell (p := ⟨q, 0, none⟩) (Nat.le_refl q) _
  clear lt1
  go_enter Tryz.func21, Tryz.ntmps21
  go_wp2
  refine wp_loop_rounds 2 ?_
  rw [rounds_succ]
  go_wp2
  rw [rounds_succ]
  go_wp2
  go_ret
  exact ⟨rfl, FIN.out.1, FIN.out.2⟩
end Go.Proofs.YtkglcainhkbgbaaGreatDoor
namespace Go.Proofs.YtkglcainhkbgbaaGreatDoor
set_option maxRecDepth 100000
open Go Go.RowKit
set_option maxHeartbeats 4000000 in
theorem as_nil (t : Value) (w : World) : Calls Tryz.prog 21 #[.nilIface, t] w fun ev w' => ev = .returned (.bool false) ∧ w' = w := by
  go_enter Tryz.func21, Tryz.ntmps21
  go_wp2
  go_ret
  exact ⟨rfl, rfl⟩
structure HasV (w : World) : Prop where
  N : HasN w
  R : HasR w
  E : w.cell? ⟨1, 0, none⟩ = some (.iface 114 (.agg #[.pointer (some ⟨14, 48, none⟩)]))
theorem HasV.up {w w' : World} (h : HasV w) (n : Below w.heap.size w w') : HasV w' := ⟨h.N.up n, h.R.up n, (World.cell?_of_block (a := ⟨1, 0, none⟩) (n.block _ (block_lt_of_cell h.E))).trans h.E⟩
set_option maxRecDepth 100000 in
set_option maxHeartbeats 8000000 in
theorem implVerify_any (w : World) (g : Nat) (a : Option Addr) (c : Nat) (ps : List Int) (hr : Rd w g a .u8 ps) (hb : Byt ps) (kp : ps.length ≤ c) (gm : Nat) (am : Option Addr) (cm : Nat) (ms : List Int) (hm : Rd w gm am .u8 ms) (bm : Byt ms) (km : ms.length ≤ cm) (lm : ms.length ≤ 1048576) (gs : Nat) (aS : Option Addr) (cS : Nat) (ss : List Int) (hs : Rd w gs aS .u8 ss) (bs : Byt ss) (ks : ss.length ≤ cS) (H : HasV w) :
    Calls Tryz.prog 9 #[.slice a ps.length c, .slice am ms.length cm, .slice aS ss.length cS] w fun r w' => r = .returned (.int .i64 (vfV ps ms ss)) ∧ Below w.heap.size w w' := by
  have na : Below w.heap.size w (w.alloc (.cells #[.int .i64 0] 45)) := (Below.refl _ _).alloc (Nat.le_refl _) _
  have c0 : (w.alloc (.cells #[.int .i64 0] 45)).cell? ⟨w.heap.size, 0, none⟩ = some (.int .i64 0) := by simp [World.cell?_alloc_at]
  have f0 : (w.alloc (.cells #[.int .i64 0] 45)).frozen? ⟨w.heap.size, 0, none⟩ = false := (there_new w [.int .i64 0] 45 0 (by decide)).2
  have lq : w.heap.size < (w.alloc (.cells #[.int .i64 0] 45)).heap.size := by simp
  have H1 := hide (H.up na)
  have CS := hide (checkSignature_any _ g a c ps (hr.up na) hb kp gm am cm ms (hm.up na) bm km lm gs aS cS ss (hs.up na) bs ks H1.out.N H1.out.R)
  clear hr hb kp hm bm km lm hs bs ks
  go_enter Tryz.func9, Tryz.ntmps9
  go_wp2_with fail
  generalize w.alloc (.cells #[.int .i64 0] 45) = wa at *
  refine CS.out.mono ?_
  rintro r w1 ⟨⟨v, rfl, hv⟩, n1⟩
  clear CS
  have N1 := nxt na n1
  have c1 : w1.cell? ⟨w.heap.size, 0, none⟩ = some (.int .i64 0) := (World.cell?_of_block (a := ⟨w.heap.size, 0, none⟩) (n1.block _ lq)).trans c0
  have f1 : w1.frozen? ⟨w.heap.size, 0, none⟩ = false := (n1.frozen lq).trans f0
  have H2 := hide (H1.out.up n1)
  rcases hv with ⟨h0, rfl⟩ | ⟨h0, s, rfl⟩
  · have AN := fun t => as_nil t w1
    have Z := hide h0
    clear h0
    go_wp2_with fail
    refine (AN _).mono ?_
    rintro r w2 ⟨rfl, rfl⟩
    go_wp2
    go_ret
    exact ⟨by rw [Z.out]; rfl, N1⟩
  · have AH := hide (as_hit (vfV ps ms ss) s w.heap.size _ w1 H2.out.E c1 f1)
    clear h0
    go_wp2_with fail
    refine AH.out.mono ?_
    rintro r w2 ⟨rfl, c2, n2⟩
    have N2 := N1.trans n2
    go_wp2
    go_ret
    exact ⟨rfl, N2⟩
end Go.Proofs.YtkglcainhkbgbaaGreatDoor
namespace Go.Proofs.YtkglcainhkbgbaaGreatDoor
set_option maxRecDepth 100000
open Go Go.RowKit
end Go.Proofs.YtkglcainhkbgbaaGreatDoor
namespace Go.Proofs.YtkglcainhkbgbaaGreatDoor
set_option maxRecDepth 100000
open Go.RowKit
theorem gSth : Tryz.prog.globalNamed "loop.example/g00004/impl.startWords" = some 5 := by kernel_rfl
theorem tSth : (Tryz.prog.globals[5]?).map (·.type) = some 63 := by kernel_rfl
theorem gSp : Tryz.prog.globalNamed "loop.example/g00004/impl.stepWords" = some 7 := by kernel_rfl
theorem tSp : (Tryz.prog.globals[7]?).map (·.type) = some 164 := by kernel_rfl
theorem uSt : Tryz.prog.underlying 63 = some (.array 8 39) := by kernel_rfl
theorem uSp : Tryz.prog.underlying 164 = some (.array 80 39) := by kernel_rfl
theorem cSt : Tryz.prog.cellsOf 63 = 8 := by kernel_rfl
theorem cSp : Tryz.prog.cellsOf 164 = 80 := by kernel_rfl
theorem cUw : Tryz.prog.cellsOf 39 = 1 := by kernel_rfl
theorem uUw : Tryz.prog.underlying 39 = some (.int .u64) := by kernel_rfl
theorem hasT_of {W : World} {n : String} {g : Nat} {ty : TypeId} {N : Nat} {l : List Int} (hn : Tryz.prog.globalNamed n = some g) (ht : (Tryz.prog.globals[g]?).map (·.type) = some ty) (hu : Tryz.prog.underlying ty = some (.array N 39)) (hc : Tryz.prog.cellsOf ty = N)
    (h : Lib.VarReads Tryz.prog W n (.agg (l.map fun x => .lit (.int .u64 x)))) : HasT W g l := by
  obtain ⟨g', t, cs, fuel, p, hg, ht', hv, hd⟩ := h
  obtain rfl := Option.some.inj (hn.symm.trans hg)
  obtain rfl := Option.some.inj (ht.symm.trans ht')
  have hcs := Lib.cells_of_tab (zs := l) hu uUw cUw hc hd
  intro k hk
  rw [World.var?_cell hg hv k]
  obtain ⟨m⟩ := cs
  simp only at hcs
  subst hcs
  simp [hk]
theorem reads_ofH {l : List (String × DataW Unit)} {W : World} (h : laidMetH Tryz.prog l W) (hp : (l.all fun x => x.2.handleName?.isNone) = true) {n : String} {d : DataW Unit} (hm : (n, d) ∈ l) : Lib.VarReads Tryz.prog W n d := by
  rw [MakeChecks.laidMetH_plain _ _ _ hp] at h
  exact Lib.laidMet.reads h hm
theorem start_of {W : World} (h : Lib.VarReads Tryz.prog W "loop.example/g00004/impl.startWords" Rows.laid_loop_example_g00004_impl_startWords) : HasT W 5 stLh := hasT_of gSth tSth uSt cSt h
theorem steps_of {W : World} (h : Lib.VarReads Tryz.prog W "loop.example/g00004/impl.stepWords" Rows.laid_loop_example_g00004_impl_stepWords) : HasT W 7 kL := hasT_of gSp tSp uSp cSp h
def HasH (W : World) : Prop := HasT W 5 stLh ∧ HasT W 7 kL
theorem HasH.up {w w' : World} (h : HasH w) (n : Below w.heap.size w w') : HasH w' := ⟨h.1.up n, h.2.up n⟩
end Go.Proofs.YtkglcainhkbgbaaGreatDoor
namespace Go.Proofs.YtkglcainhkbgbaaGreatDoor
set_option maxRecDepth 100000
open Go Go.RowKit
def HasA (w : World) : Prop := HasTw w 9 ∧ Em5 w 8 0 dGo ∧ HasSt w 13 ∧ Has3 w 10 12 5 4
theorem hasA_of {l : List (String × DataW Unit)} {W : World} (h : laidMetH Tryz.prog l W) (hp : (l.all fun x => x.2.handleName?.isNone) = true)
    (h1 : ("loop.example/g00004/impl.chainSteps", Rows.laid_loop_example_g00004_impl_chainSteps) ∈ l) (h2 : ("loop.example/g00004/impl.inverseStep", Rows.laid_loop_example_g00004_impl_inverseStep) ∈ l)
    (h3 : ("loop.example/g00004/impl.twiceP", Rows.laid_loop_example_g00004_impl_twiceP) ∈ l) (h4 : ("loop.example/g00004/impl.curveFactor", Rows.laid_loop_example_g00004_impl_curveFactor) ∈ l) : HasA W :=
  ⟨tw_of_reads (reads_of h hp h3), cf_of_reads (reads_of h hp h4), st_of_reads (reads_of h hp h1), three_of_reads gIn tIn (reads_of h hp h2)⟩
end Go.Proofs.YtkglcainhkbgbaaGreatDoor
namespace Go.Proofs.YtkglcainhkbgbaaGreatDoor
set_option maxRecDepth 100000
open Go Go.RowKit
end Go.Proofs.YtkglcainhkbgbaaGreatDoor
namespace Go.Proofs.YtkglcainhkbgbaaGreatDoor
set_option maxRecDepth 100000
open Go Go.RowKit
set_option maxHeartbeats 1000000 in
theorem implSign_any (w : World) (g gy : Nat) (a ay : Option Addr) (c cy : Nat) (xs ys : List Int) (hr : Rd w g a .u8 xs) (hb : Byt xs) (hc : xs.length ≤ c) (hy : Rd w gy ay .u8 ys) (by0 : Byt ys) (hcy : ys.length ≤ cy) (ly0 : ys.length ≤ 1048576) (H : HasN w) :
    Calls Tryz.prog 8 #[.slice a xs.length c, .slice ay ys.length cy] w fun r w' => NewRow w.heap.size w' r .u8 (snA xs ys) ∧ Below w.heap.size w w' := by
  by_cases hl : xs.length = 32
  · have e := show snA xs ys = sgnL (sgV (hashL64 xs) : Int) ((hashL64 xs).drop 32) (sgB (sgV (hashL64 xs))) ys by unfold snA; rw [if_pos hl]
    have NS := hide (newSigner_any w g a c xs hr hb hc (by omega) H.S H.A H.B)
    have HL := hide (hash64_len xs)
    have HB := hide (hash64_byt xs)
    rw [e]
    generalize hashL64 xs = hs at *
    rw [hl] at NS ⊢
    have SW := hide (sg_words HB.out HL.out)
    have LM := hide (show (hs.drop 32).length = 32 by rw [List.length_drop, HL.out])
    have BM := hide (byt_drop HB.out 32)
    have LP := hide (show (sgB (sgV hs)).length = 32 from en_len _)
    have BP := hide (show Byt (sgB (sgV hs)) from en_byt (pv_mulB _))
    rw [← SW.out.2]
    clear e hr hb hc hl
    go_enter Tryz.func8, Tryz.ntmps8
    go_wp2_with fail
    refine NS.out.mono ?_
    rintro r w1 ⟨⟨am, a1, cm, c1, gm, g1, rfl, oM, kM, o1, p1, q1, r1, -⟩, n1⟩
    have SG := hide (sign_any w1 _ SW.out.1 am a1 ay cm c1 cy gm g1 gy (hs.drop 32) (sgB (sgV hs)) ys oM.rd LM.out BM.out kM o1.rd LP.out BP.out q1 (hy.up n1) by0 hcy ly0 (H.up n1))
    have z1 := n1.size
    generalize (sgC (clw (wv (fun j => (hs.take 32).getD j 0) 32)) (.slice am 32 cm) (.slice a1 32 c1)).toArray = V at *
    clear NS oM kM o1 p1 q1 r1
    go_wp2_with fail
    refine SG.out.mono ?_
    rintro r w2 ⟨⟨a2, c2, g2, rfl, o2, p2, q2, r2⟩, n2⟩
    have N2 := nxt n1 n2
    clear SG n2
    go_wp2
    go_ret
    exact ⟨⟨a2, c2, g2, rfl, o2, p2, q2, by omega⟩, N2⟩
  · have e : Hid (snA xs ys = []) := by show _ = _; unfold snA; rw [if_neg hl]
    have t1 : ((xs.length : Int) != 32) = true := by simp; omega
    clear hl
    go_enter Tryz.func8, Tryz.ntmps8
    go_wp2
    go_ret
    rw [e.out]
    exact ⟨newRow_z w .u8, Below.refl _ _⟩
end Go.Proofs.YtkglcainhkbgbaaGreatDoor
namespace Go.Proofs.YtkglcainhkbgbaaGreatDoor
set_option maxRecDepth 100000
open Go Go.RowKit
theorem num_ok {A : Prop} {v : Int} {t : Bool} {zs : List Int} (h : NumOf A v t zs) : Byt zs := by
  rcases h with ⟨_, c, hc, h | h⟩ | ⟨_, _, rfl⟩
  · obtain ⟨h1, rfl, rfl⟩ := h
    exact hc.1
  · obtain ⟨h1, rfl, rfl⟩ := h
    exact byt_nil
  · exact byt_nil
theorem mv_byt {zs mv : List Int} (hz : Byt zs) (h : TurnOf zs 32 mv) : Byt mv := by
  rcases h with ⟨_, c, hc, h | h⟩ | ⟨_, h⟩
  · rw [h.2]
    intro j
    by_cases hj : j < 32
    · rw [show (32 : Int).toNat = 32 from rfl, fill_get _ _ _ hj]
      unfold dig
      split
      · exact hz _
      · exact ⟨by decide, by decide⟩
    · rw [List.getD_eq_getElem?_getD, List.getElem?_eq_none (by rw [fill_len]; show 32 ≤ j; omega)]
      exact ⟨by decide, by decide⟩
  · rw [h.2]; exact byt_nil
  · rw [h]; exact byt_nil
theorem num_len {A : Prop} {v : Int} {t : Bool} {zs : List Int} (h : NumOf A v t zs) : zs.length ≤ 128 := by
  rcases h with ⟨_, c, hc, h | h⟩ | ⟨_, _, rfl⟩
  · obtain ⟨h1, rfl, rfl⟩ := h
    exact h1
  · obtain ⟨h1, rfl, rfl⟩ := h
    simp
  · simp
theorem iNR : (Tryz.prog.info? 30).map (·.size) = some 2 := by kernel_rfl
theorem sgV_clp {hs : List Int} (hb : Byt hs) (hl : hs.length = 64) : Clp (sgV hs) := by
  have lt : (hs.take 32).length = 32 := by rw [List.length_take]; omega
  have h := clampL_bd (byt_takeh hb 32) lt
  have e : ((sgV hs : Nat) : Int) = num (clampL (hs.take 32)) := by unfold sgV; omega
  exact ⟨by omega, by omega, by omega⟩
structure SgdOk (P M S : List Int) : Prop where
  lP : P.length = 32
  lS : S.length = 64
  bP : Byt P
  bS : Byt S
  v0 : vfV P M S = 0
  v1 : vfV P M (S.take 63) = 1
  ov : ovalid (S.drop 32) = true
  lt : num (S.drop 32) < QQ
  v2 : ∀ mv, mv.length = 32 → num mv = num (S.drop 32) + QQ → vfV P M (S.take 32 ++ mv) = 2
theorem sgd_ok {sd ms : List Int} (hl : sd.length = 32) : SgdOk (spA sd) ms (snA sd ms) := by
  have e1 : spA sd = sgB (sgV (hashL64 sd)) := by unfold spA; rw [if_pos hl]
  have e2 : snA sd ms = sgnL (sgV (hashL64 sd) : Int) ((hashL64 sd).drop 32) (sgB (sgV (hashL64 sd))) ms := by unfold snA; rw [if_pos hl]
  have hc := sgV_clp (hash64_byt sd) (hash64_len sd)
  rw [e1, e2]
  generalize (hashL64 sd).drop 32 = mk
  generalize sgV (hashL64 sd) = a at *
  have b2 : Byt (sgnL (a : Int) mk (sgB a) ms) := by rw [sgnL_is]; exact byt_apd (sgR_byt _ _) (bytes_5 _ _)
  have o : ovalid ((sgnL (a : Int) mk (sgB a) ms).drop 32) = true := by
    rw [sg_drop]
    unfold ovalid
    rw [fill_len, sg_num, decide_eq_true (sgS_lt a mk ms)]
    rfl
  refine ⟨en_len _, sg_len _ _ _, en_byt (pv_mulB _), b2, sg_vf hc mk ms, vf_short (by rw [List.length_take, sg_len]; decide), o, by rw [sg_drop, sg_num]; exact sgS_lt _ _ _, fun mv l n => ?_⟩
  refine vf_over (en_len _) (by rw [List.length_append, List.length_take, sg_len, l]; decide) ?_
  rw [List.drop_append_of_le_length (by rw [List.length_take, sg_len]; decide), List.drop_eq_nil_of_le (by rw [List.length_take, sg_len]; decide), List.nil_append]
  exact over_is (num_nonneg (byt_drop b2 32)) n
section
variable {ops : Array Oper} {Q : Exit → Act → World → Prop} {md : Region.Mode} {F : Nat → Fact} {a0 : Act} {w0 : World} {i : Nat} {o : Oper} {ts : Array TypeId}
theorem step_vfy (H : HasV w0) (hi : ops[i]? = some o) (p q r j k l : Nat) {b1 b2 b3 : Nat} {P M S : List Int} (bP : Byt P) (bM : Byt M) (bS : Byt S) (lM : M.length ≤ 1048576) (hop : o.op = .call { callee := .value (.func 9), args := #[.tmp p, .tmp q, .tmp r], argTypes := ts }) (hj : waits md ops i j p = true) (hk : waits md ops i k q = true) (hl : waits md ops i l r = true) (hFj : F j = RBf b1 P) (hFk : F k = RBf b2 M) (hFl : F l = RBf b3 S) (hFi : F i = Fact.eq (.int .i64 (vfV P M S))) : StepOk Tryz.prog md ops Q F a0 w0 i := by
  refine step_callv hi _ _ ts hop (by kernel_rfl) fun A w _ hw hF => ?_
  have ea := hF j p hj
  have eb := hF k q hk
  have ec := hF l r hl
  rw [hFj] at ea
  rw [hFk] at eb
  rw [hFl] at ec
  obtain ⟨a1, c1, g1, e1, r1, -, k1, -⟩ := RowB.rd ea
  obtain ⟨a2, c2, g2, e2, r2, -, k2, -⟩ := RowB.rd eb
  obtain ⟨a3, c3, g3, e3, r3, -, k3, -⟩ := RowB.rd ec
  show Calls Tryz.prog 9 #[A.tmps.getD p undef, A.tmps.getD q undef, A.tmps.getD r undef] w _
  rw [e1, e2, e3]
  refine (implVerify_any w g1 a1 c1 P r1 bP k1 g2 a2 c2 M r2 bM k2 lM g3 a3 c3 S r3 bS k3 (H.up hw)).mono ?_
  rintro e w' ⟨rfl, n⟩
  rw [hFi]
  exact ⟨_, rfl, n, rfl⟩
theorem step_ovl (H : HasV w0) (hi : ops[i]? = some o) (p j : Nat) {b1 : Nat} {S : List Int} (bS : Byt S) (hop : o.op = .call { callee := .value (.func 10), args := #[.tmp p], argTypes := ts }) (hj : waits md ops i j p = true) (hFj : F j = RBf b1 S) (hFi : F i = Fact.eq (.bool (ovalid S))) : StepOk Tryz.prog md ops Q F a0 w0 i := by
  refine step_callv hi _ _ ts hop (by kernel_rfl) fun A w _ hw hF => ?_
  have ea := hF j p hj
  rw [hFj] at ea
  obtain ⟨a1, c1, g1, e1, r1, -, k1, -⟩ := RowB.rd ea
  show Calls Tryz.prog 10 #[A.tmps.getD p undef] w _
  rw [e1]
  refine (implOrderValid_any w g1 a1 c1 S r1 bS (H.up hw).N.O.1).mono ?_
  rintro e w' ⟨rfl, n⟩
  rw [hFi]
  exact ⟨_, rfl, n, rfl⟩
theorem wp_callv {P : Program} {a : Act} {w : World} {K : Act → World → Prop} (n : FuncId) (args : Array Operand) (hop : o.op = .call { callee := .value (.func n), args := args, argTypes := ts }) (he : enters P n = true)
    (G : Calls P n (args.toList.map a.eval).toArray w fun e w' => ∃ v, e = .returned v ∧ K (a.put o.dst v) w') : o.wp P a w K Q := by
  have hr : (execOp a.eval o).run P w = .ok (.enter n (args.map a.eval)) w := by
    have h0 : (Deferred.ofValue (Value.func (Fn.func n) #[] #[]) (args.map a.eval)).run P w = .ok { target := .fn (.func n) #[], args := args.map a.eval } w := by simp [Deferred.ofValue]
    simp [execOp, hop, resolve, invoke, Act.eval, h0, run_enter he]
  have e : args.map a.eval = (args.toList.map a.eval).toArray := by cases args; simp
  unfold Oper.wp
  rw [hr, e, Oper.upon_enter]
  refine G.mono ?_
  rintro e w' ⟨v, rfl, h⟩
  exact h
theorem wp_val {P : Program} {a : Act} {w : World} {K : Act → World → Prop} (v : Value) (hr : (execOp a.eval o).run P w = .ok (.value v) w) (h : K (a.put o.dst v) w) : o.wp P a w K Q := by
  unfold Oper.wp
  rw [hr]
  exact h
theorem own_blk {u : Value} {g : Nat} (q : some g = u.ownBlock) : some g = blkOf u := by
  unfold Value.ownBlock at q
  split at q
  · exact q
  · cases q
theorem rd_grown {W W' : World} {b : Nat} {v u : Value} {xs : List Int} (h : RowB W b v xs) (gr : W.grownBy W' u.ownBlock) (hne : 0 < xs.length → blkOf v ≠ blkOf u) : ∃ (a : Option Addr) (c g : Nat), v = .slice a xs.length c ∧ Rd W' g a .u8 xs ∧ xs.length ≤ c := by
  obtain ⟨a, c, g, e, r, -, k, -⟩ := RowB.rd h
  refine ⟨a, c, g, e, fun h0 => ?_, k⟩
  have lt := r.lt h0
  obtain ⟨off, ea, hc⟩ := r h0
  have ne := hne h0
  rw [e, ea] at ne
  have hb : W'.heap[g]? = W.heap[g]? := gr.block g lt (fun q => ne (own_blk q))
  exact (r.of_block hb) h0
theorem step_ne1 (hi : ops[i]? = some o) (p j : Nat) (hop : o.op = .binOp .neq 2 (.tmp p) (.const (.int .i64 1)) 2) (hj : waits md ops i j p = true) (hFj : F j = Fact.eq (.int .i64 1)) (hFi : F i = Fact.eq (.bool false)) : StepOk Tryz.prog md ops Q F a0 w0 i := by
  refine step_pure hi fun a w _ _ hf => ⟨.bool false, ?_, by rw [hFi]; exact rfl⟩
  have e := hf j p hj
  rw [hFj] at e
  have e' : a.eval (.tmp p) = .int .i64 1 := e
  have e2 : a.eval (.const (.int .i64 1)) = .int .i64 1 := rfl
  simp only [execOp, hop, e', e2]
  first | rfl | (simp [eqGuard, binOp, Op.intCmp]; done) | go_simp
end
set_option maxRecDepth 100000 in
set_option maxHeartbeats 8000000 in
theorem signed_law (w : World) (g0 : Nat) (a0 : Option Addr) (c0 : Nat) (X0 : List Int) (hX0 : Rd w g0 a0 .u8 X0) (bX0 : Byt X0) (hL : HasV w) :
    Calls Tryz.prog 3 #[.slice a0 X0.length c0] w fun e w' => e = .returned (.bool true) ∧ Below w.heap.size w w' := by
  by_cases q0 : X0.length ≤ 1048576
  · have u0 : decide ((1048576 : Int) < (X0.length : Int)) = false := by simp; omega
    have HL := hide hL
    go_enter Tryz.func3, Tryz.ntmps3
    go_wp2_with fail
    refine (drawSign_any w g0 a0 c0 X0 hX0 bX0 q0).mono ?_
    rintro e w1 ⟨a1, a2, c1, c2, g1, g2, sd0, ms, rfl, o1, o2, b1, b2, l1, l2, z1, z2, N⟩
    go_wp2_with fail
    refine (lw32_any w1 g1 a1 c1 sd0 o1.rd).mono ?_
    rintro e w2 ⟨rfl, B2, n2⟩
    have RM := hide (o2.rd.up n2)
    replace N := nxt N n2
    have LS := hide (to32_len sd0)
    have BS := hide (to32_byt b1)
    generalize to32 sd0 = sd at *
    generalize w1.heap.size = qs at *
    have OK := hide (sgd_ok (ms := ms) LS.out)
    have RS := hide (show Rd w2 qs (some ⟨qs, 0, none⟩) .u8 sd from B2.own0.rd)
    have ML := hide l2
    have MB := hide b2
    have MZ := hide z2
    clear o1 o2 b1 b2 l1 l2 z1 z2 n2 B2 hX0 bX0
    have C1 := hide (lwCopy_any w2 qs (some ⟨qs, 0, none⟩) 32 sd RS.out (by simp) (by rw [LS.out]; decide))
    rw [LS.out] at C1
    go_wp2_with fail
    refine C1.out.mono ?_
    rintro e w3 ⟨⟨a3, c3, g3, rfl, o3, p3, k3, r3⟩, n3⟩
    replace N := nxt N n3
    replace RM := hide (RM.out.up n3)
    replace RS := hide (RS.out.up n3)
    have SP := hide (implSignPublic_any w3 g3 a3 c3 sd o3.rd BS.out k3 (HL.out.up N).N.S (HL.out.up N).N.A (HL.out.up N).N.B)
    generalize spA sd = P at *
    clear C1 n3 p3 k3 r3 o3
    go_wp2_with fail
    refine SP.out.mono ?_
    rintro e w4 ⟨⟨ap, cp, gp, rfl, oP, zP, kP, rP⟩, n4⟩
    replace N := nxt N n4
    replace RM := hide (RM.out.up n4)
    replace RS := hide (RS.out.up n4)
    have RP := hide oP.rd
    have ZP := hide zP
    clear SP n4 rP oP zP
    have C2 := hide (lwCopy_any w4 qs (some ⟨qs, 0, none⟩) 32 sd RS.out (by simp) (by rw [LS.out]; decide))
    rw [LS.out] at C2
    rw [OK.out.lP]
    go_wp2_with fail
    refine C2.out.mono ?_
    rintro e w5 ⟨⟨a5, c5, g5, rfl, o5, p5, k5, r5⟩, n5⟩
    replace N := nxt N n5
    replace RM := hide (RM.out.up n5)
    replace RP := hide (RP.out.up n5)
    clear C2 RS
    have C3 := hide (lwCopy_any w5 g2 a2 c2 ms RM.out MZ.out (by have := ML.out; omega))
    go_wp2_with fail
    refine C3.out.mono ?_
    rintro e w6 ⟨⟨a6, c6, g6, rfl, o6, p6, k6, r6⟩, n6⟩
    replace N := nxt N n6
    replace RM := hide (RM.out.up n6)
    replace RP := hide (RP.out.up n6)
    have SN := hide (implSign_any w6 g5 g6 a5 a6 c5 c6 sd ms (o5.rd.up n6) BS.out k5 o6.rd MB.out k6 (by have := ML.out; omega) (HL.out.up N).N)
    generalize snA sd ms = S at *
    clear C3 n5 n6 o5 p5 k5 r5 o6 p6 k6 r6
    go_wp2_with fail
    refine SN.out.mono ?_
    rintro e w7 ⟨⟨aS, cS, gS, rfl, oS, zS, kS, rS⟩, n7⟩
    replace N := nxt N n7
    replace RM := hide (RM.out.up n7)
    replace RP := hide (RP.out.up n7)
    have RG := hide oS.rd
    rw [OK.out.lS] at kS ⊢
    obtain ⟨oS', rfl, -⟩ := id oS (by rw [OK.out.lS]; decide)
    clear SN n7 rS oS zS
    have D1 := hide (lwCopy_any w7 gp ap cp P RP.out ZP.out (by rw [OK.out.lP]; decide))
    rw [OK.out.lP] at D1
    go_wp2_with fail
    refine D1.out.mono ?_
    rintro e w8 ⟨⟨a8, c8, g8, rfl, o8, p8, k8, r8⟩, n8⟩
    replace N := nxt N n8
    replace RM := hide (RM.out.up n8)
    replace RP := hide (RP.out.up n8)
    replace RG := hide (RG.out.up n8)
    have D2 := hide (lwCopy_any w8 g2 a2 c2 ms RM.out MZ.out (by have := ML.out; omega))
    go_wp2_with fail
    refine D2.out.mono ?_
    rintro e w9 ⟨⟨a9, c9, g9, rfl, o9, p9, k9, r9⟩, n9⟩
    replace N := nxt N n9
    replace RM := hide (RM.out.up n9)
    replace RP := hide (RP.out.up n9)
    replace RG := hide (RG.out.up n9)
    have D3 := hide (lwCopy_any w9 gS (some ⟨gS, oS', none⟩) cS S RG.out (by simp) (by rw [OK.out.lS]; decide))
    rw [OK.out.lS] at D3
    go_wp2_with fail
    refine D3.out.mono ?_
    rintro e wa ⟨⟨aa, ca, ga, rfl, oa, pa, ka, ra⟩, na⟩
    replace N := nxt N na
    replace RM := hide (RM.out.up na)
    replace RP := hide (RP.out.up na)
    replace RG := hide (RG.out.up na)
    have VF := hide (implVerify_any wa g8 a8 c8 P ((o8.rd.up n9).up na) OK.out.bP k8 g9 a9 c9 ms (o9.rd.up na) MB.out k9 (by have := ML.out; omega) ga aa ca S oa.rd OK.out.bS ka (HL.out.up N))
    rw [OK.out.v0] at VF
    clear D1 D2 D3 n8 n9 na o8 o9 oa p8 k8 r8 p9 k9 r9 pa ka ra
    go_wp2_with fail
    refine VF.out.mono ?_
    rintro e wb ⟨rfl, nb⟩
    replace N := nxt N nb
    replace RM := hide (RM.out.up nb)
    replace RP := hide (RP.out.up nb)
    replace RG := hide (RG.out.up nb)
    clear VF nb
    go_upto_region 9 with fail
    have TK := hide (show Rd wb gS (some ⟨gS, oS', none⟩) .u8 (S.take 63) from RG.out.takeA 63)
    have TL : Hid ((S.take 63).length = 63) := by show _ = _; rw [List.length_take, OK.out.lS]; decide
    have DK : Hid (Rd wb gS (some ⟨gS, oS' + 32, none⟩) .u8 (S.drop 32)) := by
      obtain ⟨o', e', h'⟩ := RG.out.dropA 32 (by rw [OK.out.lS]; decide)
      simp only [Option.some.injEq, Addr.mk.injEq, true_and, and_true] at e'
      subst e'
      exact h'
    have DL : Hid ((S.drop 32).length = 32) := by show _ = _; rw [List.length_drop, OK.out.lS]
    refine region_guard (fun i => [Fact.eq (.slice ap 32 cp), RBf wb.heap.size P, Fact.eq (.slice a2 ms.length c2), RBf wb.heap.size ms, Fact.eq (.slice (some ⟨gS, oS', none⟩) 64 cS), Fact.eq (.slice (some ⟨gS, oS', none⟩) 63 cS), RBf wb.heap.size (S.take 63), Fact.eq (.int .i64 1), Fact.eq (.bool false), Fact.eq (.bool false), Fact.eq (.slice (some ⟨gS, oS', none⟩) 64 cS), Fact.eq (.slice (some ⟨gS, oS' + 32, none⟩) 32 (cS - 32)), RBf wb.heap.size (S.drop 32), Fact.eq (.bool true), Fact.eq (.bool false), Fact.eq (.bool false)].getD i Fact.no) (by kernel_rfl) (by kernel_rfl) ?_ ?_ ?_
    · intro i hi
      have hi16 : i < 16 := hi
      obtain rfl | rfl | rfl | rfl | rfl | rfl | rfl | rfl | rfl | rfl | rfl | rfl | rfl | rfl | rfl | rfl : i = 0 ∨ i = 1 ∨ i = 2 ∨ i = 3 ∨ i = 4 ∨ i = 5 ∨ i = 6 ∨ i = 7 ∨ i = 8 ∨ i = 9 ∨ i = 10 ∨ i = 11 ∨ i = 12 ∨ i = 13 ∨ i = 14 ∨ i = 15 := by omega
      · exact step_mv rfl 6 rfl (by kernel_rfl) rfl rfl
      · exact step_cpyV rfl 46 0 (xs := P) rfl (by kernel_rfl) (by rw [OK.out.lP]; rfl) RP.out ZP.out (by rw [OK.out.lP]; decide) rfl
      · exact step_mv rfl 4 rfl (by kernel_rfl) rfl rfl
      · exact step_cpyV rfl 48 2 (xs := ms) rfl (by kernel_rfl) rfl RM.out MZ.out (by have := ML.out; omega) rfl
      · exact step_mv rfl 7 rfl (by kernel_rfl) rfl rfl
      · exact step_slv rfl 22 50 4 _ _ rfl _ _ _ _ (by kernel_rfl) rfl (fun _ => rfl) (fun _ => rfl) (fun W => by have := sl_high W (some ⟨gS, oS', none⟩) 64 cS 63 (by omega); rw [slA_0] at this; exact this) rfl
      · exact step_cpyV rfl 51 5 (xs := S.take 63) rfl (by kernel_rfl) (by rw [TL.out]; rfl) TK.out (by simp) (by rw [TL.out]; decide) rfl
      · exact step_vfy (HL.out.up N) rfl 47 49 52 1 3 6 OK.out.bP MB.out (byt_takeh OK.out.bS 63) (by have := ML.out; omega) rfl (by kernel_rfl) (by kernel_rfl) (by kernel_rfl) rfl rfl rfl (by rw [OK.out.v1]; rfl)
      · exact step_ne1 rfl 53 7 rfl (by kernel_rfl) rfl rfl
      · exact step_move rfl 54 8 (by exact Or.inl rfl) (by kernel_rfl) rfl
      · exact step_mv rfl 7 rfl (by kernel_rfl) rfl rfl
      · exact step_slv rfl 22 56 10 _ _ rfl _ _ _ _ (by kernel_rfl) rfl (fun _ => rfl) (fun _ => rfl) (fun W => by have := sl_low W (some ⟨gS, oS', none⟩) 64 cS 32 32 (by omega) (by omega) rfl; rw [slA_32 _ _ _ kS] at this; exact this) rfl
      · exact step_cpyV rfl 57 11 (xs := S.drop 32) rfl (by kernel_rfl) (by rw [DL.out]; rfl) DK.out (by simp) (by rw [DL.out]; decide) rfl
      · exact step_ovl (HL.out.up N) rfl 58 12 (byt_drop OK.out.bS 32) rfl (by kernel_rfl) rfl (by rw [OK.out.ov]; rfl)
      · exact step_notb rfl 59 13 rfl (by kernel_rfl) rfl rfl
      · exact step_pick rfl 55 60 9 14 rfl (by kernel_rfl) (by kernel_rfl) rfl rfl rfl
    · intro i o ho A W hf
      have hi16 : i < 16 := (Array.getElem?_eq_some_iff.1 ho).1
      obtain rfl | rfl | rfl | rfl | rfl | rfl | rfl | rfl | rfl | rfl | rfl | rfl | rfl | rfl | rfl | rfl : i = 0 ∨ i = 1 ∨ i = 2 ∨ i = 3 ∨ i = 4 ∨ i = 5 ∨ i = 6 ∨ i = 7 ∨ i = 8 ∨ i = 9 ∨ i = 10 ∨ i = 11 ∨ i = 12 ∨ i = 13 ∨ i = 14 ∨ i = 15 := by omega
      all_goals cases ho
      all_goals first | exact wanted_none rfl | exact wanted_some rfl (by kernel_rfl) (hf 9 55 (by kernel_rfl))
    intro A W hb' hw hF
    have e61 := hF 15 61 (by kernel_rfl)
    obtain ⟨vs, hvs⟩ : ∃ vs : Nat → Value, ∀ d, A.tmps.getD d undef = vs d := ⟨_, fun _ => rfl⟩
    rw [hvs] at e61
    rw [puts_guard (md := .any) (by kernel_rfl) rfl hb' vs hvs]
    replace N := nxt N hw
    replace RM := hide (RM.out.up hw)
    replace RP := hide (RP.out.up hw)
    replace RG := hide (RG.out.up hw)
    replace DK := hide (DK.out.up hw)
    have e62 : vs 61 = .bool false := e61
    clear hb' hF hvs hw e61 TK TL
    simp only [puts, e62, Act.put, List.setIfInBounds_toArray, List.set_cons_succ, List.set_cons_zero]
    have SL : ∀ V, (Instr.sliceAt 22 (.slice (some ⟨gS, oS', none⟩) 64 cS) (some (.int .i64 32)) none none).run Tryz.prog V = .ok (.slice (some ⟨gS, oS' + 32, none⟩) 32 (cS - 32)) V := fun V => by have := sl_low V (some ⟨gS, oS', none⟩) 64 cS 32 32 (by omega) (by omega) rfl; rw [slA_32 _ _ _ kS] at this; exact this
    have LT := hide (lwTurn_any W gS (some ⟨gS, oS' + 32, none⟩) (cS - 32) (S.drop 32) DK.out (byt_drop OK.out.bS 32) (by rw [DL.out]; decide))
    rw [DL.out] at LT
    clear e62
    go_wp2_with (first | (refine wpList_slT W rfl 22 (.tmp 62) _ _ rfl _ _ _ rfl rfl rfl _ (SL W) ?_) | fail)
    refine LT.out.mono ?_
    rintro e wc ⟨y1, T1, yb1, ⟨ac, cc, gc, rfl, oc, pc, kc, rc⟩, nc⟩
    have L1 := hide T1.1
    have V1 : Hid (bval y1 = num (S.drop 32)) := TurnTo.val (by rw [DL.out]; exact T1)
    replace N := nxt N nc
    replace RM := hide (RM.out.up nc)
    replace RP := hide (RP.out.up nc)
    replace RG := hide (RG.out.up nc)
    have OB := hide (implOrderBytes_any wc (HL.out.up N).N.O.1)
    clear LT nc T1 pc kc rc DK
    go_wp2_with fail
    refine OB.out.mono ?_
    rintro e wd ⟨⟨ad, cd, gd, rfl, od, pd, kd, rd⟩, nd⟩
    replace N := nxt N nd
    replace RM := hide (RM.out.up nd)
    replace RP := hide (RP.out.up nd)
    replace RG := hide (RG.out.up nd)
    replace oc := oc.up nd
    have LQ := hide (lwTurn_any wd gd ad cd (fill (byt QQ) 32) od.rd (bytes_5 _ _) (by rw [fill_len]; decide))
    clear OB nd pd kd rd od
    go_wp2_with fail
    refine LQ.out.mono ?_
    rintro e we ⟨y2, T2, yb2, ⟨ae, ce, ge, rfl, oe, pe, ke, re⟩, ne⟩
    have L2 : Hid (y2.length = 32) := by show _ = _; rw [T2.1, fill_len]
    have V2 : Hid (bval y2 = QQ) := by show _ = _; rw [T2.val]; exact num_fill (by decide) QQ_lt
    replace N := nxt N ne
    replace RM := hide (RM.out.up ne)
    replace RP := hide (RP.out.up ne)
    replace RG := hide (RG.out.up ne)
    have NA := hide (implNumAdd_any we gc ge ac ae cc ce y1 y2 (oc.rd.up ne) oe.rd yb1 yb2)
    clear LQ ne oc oe T2 pe ke re
    go_wp2_with fail
    refine NA.out.mono ?_
    rintro e wf ⟨t, zs, hN, ⟨af, cf, gf, rfl, of, pf, kf, rf⟩, nf⟩
    have HN := hide hN
    replace N := nxt N nf
    replace RM := hide (RM.out.up nf)
    replace RP := hide (RP.out.up nf)
    replace RG := hide (RG.out.up nf)
    have na : Below wf.heap.size wf (wf.alloc (.cells #[.bool false, .slice none 0 0] 30)) := (Below.refl _ _).alloc (Nat.le_refl _) _
    have ta : (wf.alloc (.cells #[.bool false, .slice none 0 0] 30)).there wf.heap.size 0 2 := there_new wf _ _
    have ns : Below wf.heap.size wf ((wf.alloc (.cells #[.bool false, .slice none 0 0] 30)).setCells wf.heap.size 0 [.bool t, .slice af zs.length cf]) := na.trans ((only_setCells _ _ _ 0).below (Nat.le_refl _))
    have RL := World.rangeAt_setCells_same (wf.alloc (.cells #[.bool false, .slice none 0 0] 30)) wf.heap.size 0 [.bool t, .slice af zs.length cf] ta
    replace N := nxt N ns
    replace RM := hide (RM.out.up ns)
    replace RP := hide (RP.out.up ns)
    replace RG := hide (RG.out.up ns)
    have RZ := hide (of.rd.up ns)
    have KF := hide kf
    clear NA nf hN na ns of pf kf rf yb1 yb2
    go_upto_region 12 with (refine wpList_store_mid rfl 30 (.tmp 8) (.tmp 67) rfl wf.heap.size 0 #[.bool t, .slice af zs.length cf] rfl rfl ta iNR (by simp [Value.oneCell']) ?_)
    generalize (wf.alloc (.cells #[.bool false, .slice none 0 0] 30)).setCells wf.heap.size 0 [.bool t, .slice af zs.length cf] = wg at *
    generalize wf.heap.size = q8 at *
    have s1 : wg.cell? ⟨q8, 1, none⟩ = some (.slice af zs.length cf) := RL 1 _ rfl
    have NT := hide (implNumTurn_any wg gf af cf zs 32 RZ.out (num_ok HN.out) KF.out (by have := num_len HN.out; omega))
    clear ta RL
    go_wp2_with fail
    refine NT.out.mono ?_
    rintro e wh ⟨mv, hT, ⟨ah, ch, gh, rfl, oh, ph, kh, rh⟩, nh⟩
    have MV := hide (moved_is L1.out L2.out V1.out OK.out.lt V2.out HN.out hT)
    have V3 := hide (OK.out.v2 mv MV.out.1 MV.out.2)
    have BV := hide (mv_byt (num_ok HN.out) hT)
    replace N := nxt N nh
    replace RM := hide (RM.out.up nh)
    replace RP := hide (RP.out.up nh)
    replace RG := hide (RG.out.up nh)
    have RV := hide oh.rd
    rw [MV.out.1] at kh ⊢
    clear NT nh hT oh rh HN L1 L2 V1 V2 RZ KF s1
    go_upto_region 15 with fail
    have TS := hide (show Rd wh gS (some ⟨gS, oS', none⟩) .u8 (S.take 32) from RG.out.takeA 32)
    have TSL : Hid ((S.take 32).length = 32) := by show _ = _; rw [List.length_take, OK.out.lS]; decide
    have PH := hide ph
    clear ph
    refine region_tail 8 (fun i => [Fact.eq (.slice ap 32 cp), RBf wh.heap.size P, Fact.eq (.slice a2 ms.length c2), RBf wh.heap.size ms, Fact.eq (.slice (some ⟨gS, oS', none⟩) 64 cS), Fact.eq (.slice (some ⟨gS, oS', none⟩) 32 cS), RBf wh.heap.size (S.take 32), Fact.eq (.slice ah 32 ch)].getD i Fact.no) (by kernel_rfl) (by kernel_rfl) ?_ (if 0 < ms.length then [(1, 75), (3, 77), (6, 80)] else [(1, 75), (6, 80)]) ?_ ?_ ?_
    · intro i hi
      obtain rfl | rfl | rfl | rfl | rfl | rfl | rfl | rfl : i = 0 ∨ i = 1 ∨ i = 2 ∨ i = 3 ∨ i = 4 ∨ i = 5 ∨ i = 6 ∨ i = 7 := by omega
      · exact step_mv rfl 6 rfl (by kernel_rfl) rfl rfl
      · exact step_cpyV rfl 74 0 (xs := P) rfl (by kernel_rfl) (by rw [OK.out.lP]; rfl) RP.out ZP.out (by rw [OK.out.lP]; decide) rfl
      · exact step_mv rfl 4 rfl (by kernel_rfl) rfl rfl
      · exact step_cpyV rfl 76 2 (xs := ms) rfl (by kernel_rfl) rfl RM.out MZ.out (by have := ML.out; omega) rfl
      · exact step_mv rfl 7 rfl (by kernel_rfl) rfl rfl
      · exact step_slv rfl 22 78 4 _ _ rfl _ _ _ _ (by kernel_rfl) rfl (fun _ => rfl) (fun _ => rfl) (fun W => by have := sl_high W (some ⟨gS, oS', none⟩) 64 cS 32 (by omega); rw [slA_0] at this; exact this) rfl
      · exact step_cpyV rfl 79 5 (xs := S.take 32) rfl (by kernel_rfl) (by rw [TSL.out]; rfl) TS.out (by simp) (by rw [TSL.out]; decide) rfl
      · exact step_mv rfl 9 rfl (by kernel_rfl) rfl rfl
    · intro p hp
      have k : p = (1, 75) ∨ (p = (3, 77) ∧ 0 < ms.length) ∨ p = (6, 80) := by
        by_cases hM : 0 < ms.length
        · rw [if_pos hM] at hp
          simp only [List.mem_cons, List.not_mem_nil, or_false] at hp
          rcases hp with h | h | h
          · exact Or.inl h
          · exact Or.inr (Or.inl ⟨h, hM⟩)
          · exact Or.inr (Or.inr h)
        · rw [if_neg hM] at hp
          simp only [List.mem_cons, List.not_mem_nil, or_false] at hp
          rcases hp with h | h
          · exact Or.inl h
          · exact Or.inr (Or.inr h)
      rcases k with rfl | ⟨rfl, hM⟩ | rfl
      · exact ⟨by decide, by kernel_rfl, fresh_cpyV rfl 74 0 (xs := P) rfl (by kernel_rfl) (by rw [OK.out.lP]; rfl) RP.out ZP.out (by rw [OK.out.lP]; decide) (by rw [OK.out.lP]; decide) rfl⟩
      · exact ⟨by decide, by kernel_rfl, fresh_cpyV rfl 76 2 (xs := ms) rfl (by kernel_rfl) rfl RM.out MZ.out (by have := ML.out; omega) hM rfl⟩
      · exact ⟨by decide, by kernel_rfl, fresh_cpyV rfl 79 5 (xs := S.take 32) rfl (by kernel_rfl) (by rw [TSL.out]; rfl) TS.out (by simp) (by rw [TSL.out]; decide) (by rw [TSL.out]; decide) rfl⟩
    · intro p hp p' hp' hn
      have k : ∀ p : Nat × Nat, p ∈ (if 0 < ms.length then [(1, 75), (3, 77), (6, 80)] else [(1, 75), (6, 80)]) → p = (1, 75) ∨ p = (3, 77) ∨ p = (6, 80) := fun p hp => by
        split at hp
        · simpa using hp
        · simp only [List.mem_cons, List.not_mem_nil, or_false] at hp
          rcases hp with h | h
          · exact Or.inl h
          · exact Or.inr (Or.inr h)
      rcases k p hp with rfl | rfl | rfl <;> rcases k p' hp' with rfl | rfl | rfl <;> first | exact absurd rfl hn | decide
    intro A W hb hw hF hS
    have f75 : RowB W wh.heap.size (A.tmps.getD 75 undef) P := hF 1 75 rfl (by kernel_rfl)
    have f77 : RowB W wh.heap.size (A.tmps.getD 77 undef) ms := hF 3 77 rfl (by kernel_rfl)
    have f80 : RowB W wh.heap.size (A.tmps.getD 80 undef) (S.take 32) := hF 6 80 rfl (by kernel_rfl)
    have f81 : A.tmps.getD 81 undef = .slice ah 32 ch := hF 7 81 rfl (by kernel_rfl)
    have n75 : blkOf (A.tmps.getD 75 undef) ≠ blkOf (A.tmps.getD 80 undef) := hS (1, 75) (by split <;> simp) (6, 80) (by split <;> simp) (by decide)
    have n77 : 0 < ms.length → blkOf (A.tmps.getD 77 undef) ≠ blkOf (A.tmps.getD 80 undef) := fun h => hS (3, 77) (by rw [if_pos h]; simp) (6, 80) (by split <;> simp) (by decide)
    obtain ⟨i0, hi, hz0, hz1, hz2⟩ := info_parts Tryz.info5
    have AP := append_V (P := Tryz.prog) W 22 i0 Tryz.underlying22 hi hz0 hz1 hz2 wh.heap.size _ (S.take 32) f80 gh ah ch mv (RV.out.up hw) PH.out (by rw [TSL.out, MV.out.1]; decide) hw.size
    rw [MV.out.1] at AP
    obtain ⟨v', w', hr, rb, gr⟩ := AP
    obtain ⟨a75, c75, g75, e75, r75, k75⟩ := rd_grown f75 gr (fun _ => n75)
    obtain ⟨a77, c77, g77, e77, r77, k77⟩ := rd_grown f77 gr n77
    obtain ⟨a82, c82, g82, e82, r82, -, k82, -⟩ := RowB.rd rb
    subst e82
    have nB : Below wh.heap.size W w' := (Below.refl wh.heap.size W).grown gr (by have := hw.size; omega) (fun k hk => by have := (World.ownsRow.lt f80 k hk).1; omega)
    have N' : Below w.heap.size w w' := (nxt N hw).trans (nB.mono N.size)
    have hb1 := hb.put (i := 8) rfl (.slice a82 (S.take 32 ++ mv).length c82)
    show Oper.wp Tryz.prog _ A W (fun a' w' => tailWp _ _ _ a' w') _
    refine Lib.wp_append_run W (.tmp 80) (.tmp 81) 22 22 rfl _ _ rfl f81 _ w' hr ?_
    show Oper.wp Tryz.prog _ _ w' (fun a' w' => tailWp _ _ _ a' w') _
    refine wp_callv 9 _ rfl (by kernel_rfl) ?_
    show Calls Tryz.prog 9 #[(A.put (some 82) (.slice a82 (S.take 32 ++ mv).length c82)).tmps.getD 75 undef, (A.put (some 82) (.slice a82 (S.take 32 ++ mv).length c82)).tmps.getD 77 undef, (A.put (some 82) (.slice a82 (S.take 32 ++ mv).length c82)).tmps.getD 82 undef] w' _
    rw [put_off (by decide), put_off (by decide), put_at (by rw [hb.2.1]; exact of_decide_eq_true (by kernel_rfl)), e75, e77]
    refine (implVerify_any w' g75 a75 c75 P r75 OK.out.bP k75 g77 a77 c77 ms r77 MB.out k77 (by have := ML.out; omega) g82 a82 c82 (S.take 32 ++ mv) r82 (byt_apd (byt_takeh OK.out.bS 32) BV.out) k82 (HL.out.up N')).mono ?_
    rintro e w3 ⟨rfl, n3⟩
    refine ⟨_, rfl, ?_⟩
    rw [V3.out]
    have N3 := nxt N' n3
    have hb2 := hb1.put (i := 9) rfl (.int .i64 2)
    have hb3 := hb2.put (i := 10) rfl (.bool true)
    have hb4 := hb3.put (i := 11) rfl (.bool true)
    show Oper.wp Tryz.prog _ _ w3 (fun a' w' => tailWp _ _ _ a' w') _
    refine wp_val (.bool true) ?_ ?_
    · have e83 : ((A.put (some 82) (.slice a82 (S.take 32 ++ mv).length c82)).put (some 83) (.int .i64 2)).eval (.tmp 83) = .int .i64 2 := put_at (by rw [put_size, hb.2.1]; exact of_decide_eq_true (by kernel_rfl))
      show (execOp ((A.put (some 82) (.slice a82 (S.take 32 ++ mv).length c82)).put (some 83) (.int .i64 2)).eval _).run Tryz.prog w3 = _
      simp only [execOp, e83]
      first | rfl | (simp [eqGuard, binOp, Op.intCmp, Act.eval]; done) | go_simp
    show Oper.wp Tryz.prog _ _ w3 (fun a' w' => tailWp _ _ _ a' w') _
    refine wp_val (.bool true) ?_ ?_
    · have e84 : (((A.put (some 82) (.slice a82 (S.take 32 ++ mv).length c82)).put (some 83) (.int .i64 2)).put (some 84) (.bool true)).eval (.tmp 84) = .bool true := put_at (by rw [put_size, put_size, hb.2.1]; exact of_decide_eq_true (by kernel_rfl))
      show (execOp (((A.put (some 82) (.slice a82 (S.take 32 ++ mv).length c82)).put (some 83) (.int .i64 2)).put (some 84) (.bool true)).eval _).run Tryz.prog w3 = _
      simp only [execOp, e84]
      first | rfl | (simp; done) | go_simp
    obtain ⟨us, hus⟩ : ∃ us : Nat → Value, ∀ d, ((((A.put (some 82) (.slice a82 (S.take 32 ++ mv).length c82)).put (some 83) (.int .i64 2)).put (some 84) (.bool true)).put (some 2) (.bool true)).tmps.getD d undef = us d := ⟨_, fun _ => rfl⟩
    have e2 : us 2 = .bool true := by rw [← hus]; exact put_at (by rw [put_size, put_size, put_size, hb.2.1]; exact of_decide_eq_true (by kernel_rfl))
    show Exit.then _ _ .normal ((((A.put (some 82) (.slice a82 (S.take 32 ++ mv).length c82)).put (some 83) (.int .i64 2)).put (some 84) (.bool true)).put (some 2) (.bool true)) w3
    have E := puts_tail (md := .any) (draw := true) (k := 8) (by kernel_rfl) rfl hb4 us hus
    change ((((A.put (some 82) (.slice a82 (S.take 32 ++ mv).length c82)).put (some 83) (.int .i64 2)).put (some 84) (.bool true)).put (some 2) (.bool true)) = _ at E
    rw [E]
    clear E hb hb1 hb2 hb3 hb4 hus hF hS
    simp only [puts, e2, Act.put, List.setIfInBounds_toArray, List.set_cons_succ, List.set_cons_zero]
    go_wp2
    go_ret
    exact ⟨rfl, N3⟩
  · have u0 : decide ((1048576 : Int) < (X0.length : Int)) = true := by simp; omega
    clear q0
    go_enter Tryz.func3, Tryz.ntmps3
    go_wp2
    go_ret
    exact ⟨rfl, Below.refl _ _⟩
end Go.Proofs.YtkglcainhkbgbaaGreatDoor
namespace Go.Proofs.YtkglcainhkbgbaaGreatDoor
set_option maxRecDepth 100000
open Go Go.RowKit
theorem gRm : Tryz.prog.globalNamed "loop.example/g00004/impl.rootOfMinusOne" = some 12 := by kernel_rfl
theorem tRm : (Tryz.prog.globals[12]?).map (·.type) = some 80 := by kernel_rfl
theorem rm_of_reads {W : World} (h : Lib.VarReads Tryz.prog W "loop.example/g00004/impl.rootOfMinusOne" Rows.laid_loop_example_g00004_impl_rootOfMinusOne) : Has5 W 12 iL := by
  obtain ⟨g, t, cs, fuel, p, hg, ht, hv, hd⟩ := h
  obtain rfl := Option.some.inj (gRm.symm.trans hg)
  obtain rfl := Option.some.inj (tRm.symm.trans ht)
  have hcs := Lib.cells_of_tab (zs := [1718705420411056, 234908883556509, 2233514472574048, 2117202627021982, 765476049583133]) uEl Tryz.underlying39 cU64 cEl hd
  intro k hk
  rw [World.var?_cell hg hv k]
  obtain ⟨l⟩ := cs
  simp only at hcs
  subst hcs
  obtain rfl | rfl | rfl | rfl | rfl : k = 0 ∨ k = 1 ∨ k = 2 ∨ k = 3 ∨ k = 4 := by omega
  all_goals rfl
theorem hasR_ofp {l : List (String × DataW Unit)} {W : World} (h : laidMetH Tryz.prog l W) (hp : (l.all fun x => x.2.handleName?.isNone) = true)
    (h1 : ("loop.example/g00004/impl.chainSteps", Rows.laid_loop_example_g00004_impl_chainSteps) ∈ l) (h2 : ("loop.example/g00004/impl.rootStep", Rows.laid_loop_example_g00004_impl_rootStep) ∈ l)
    (h3 : ("loop.example/g00004/impl.rootOfMinusOne", Rows.laid_loop_example_g00004_impl_rootOfMinusOne) ∈ l) (h4 : ("loop.example/g00004/impl.twiceP", Rows.laid_loop_example_g00004_impl_twiceP) ∈ l) : HasR W :=
  ⟨st_of_reads (reads_of h hp h1), three_of_reads gRo tRo (reads_of h hp h2), rm_of_reads (reads_of h hp h3), tw_of_reads (reads_of h hp h4)⟩
theorem vfEt : Tryz.prog.globalNamed "errors.errorType" = some 1 := by kernel_rfl
theorem vfRt : (Tryz.prog.cutTypes.find? (·.1 == "internal/reflectlite.rtype")).map (·.2) = some 114 := by kernel_rfl
theorem vfRow : ((List.range Tryz.prog.types.size).filter fun t => Tryz.prog.rowNamed t [101, 114, 114, 111, 114]) = [48] := by kernel_rfl
theorem handle_of_vf {W : World} (h : handlesMet Tryz.prog [("errors.errorType", Rows.laid_errors_errorType)] W) : W.cell? ⟨1, 0, none⟩ = some (.iface 114 (.agg #[.pointer (some ⟨14, 48, none⟩)])) := by
  obtain ⟨name, u, ty, e1, e2, e3, e4, e5⟩ := h _ (List.mem_singleton.2 rfl)
  have en : name = [101, 114, 114, 111, 114] := (Option.some.inj e1).symm
  subst en
  obtain rfl := Option.some.inj (vfRt.symm.trans e2)
  have hm : ty ∈ (List.range Tryz.prog.types.size).filter fun t => Tryz.prog.rowNamed t [101, 114, 114, 111, 114] := List.mem_filter.2 ⟨List.mem_range.2 e3, e4⟩
  rw [vfRow] at hm
  obtain rfl := List.mem_singleton.1 hm
  have hh : typeHandle Tryz.prog 48 = .pointer (some ⟨14, 48, none⟩) := by kernel_rfl
  rw [hh] at e5
  simpa using World.var?_cell vfEt e5 0
theorem laid_signed {W : World} (h : laidMetH Tryz.prog Rows.fnSignedRow.laid W) : HasV W := by
  have h' : laidMet Tryz.prog Rows.fnSignedRow.laid.tail W ∧ handlesMet Tryz.prog [("errors.errorType", Rows.laid_errors_errorType)] W := h
  have k : laidMetH Tryz.prog Rows.fnSignedRow.laid.tail W := by
    rw [MakeChecks.laidMetH_plain _ _ _ (by kernel_rfl)]
    exact h'.1
  have A := hasA_of k (by kernel_rfl) (.head _) (.tail _ (.head _)) (.tail _ (.tail _ (.tail _ (.tail _ (.head _))))) (.tail _ (.tail _ (.tail _ (.tail _ (.tail _ (.tail _ (.tail _ (.tail _ (.head _)))))))))
  exact ⟨⟨⟨A.1, A.2.1, zp_of_reads (reads_of k (by kernel_rfl) (.tail _ (.tail _ (.tail _ (.tail _ (.tail _ (.tail _ (.tail _ (.tail _ (.tail _ (.head _))))))))))), A.2.2.1, A.2.2.2, bp_of_reads (reads_of k (by kernel_rfl) (.tail _ (.tail _ (.tail _ (.tail _ (.tail _ (.tail _ (.tail _ (.tail _ (.tail _ (.tail _ (.head _)))))))))))) ⟩,
    start_of (reads_ofH k (by kernel_rfl) (.tail _ (.tail _ (.tail _ (.tail _ (.tail _ (.tail _ (.tail _ (.tail _ (.tail _ (.tail _ (.tail _ (.head _))))))))))))), steps_of (reads_ofH k (by kernel_rfl) (.tail _ (.tail _ (.tail _ (.tail _ (.tail _ (.tail _ (.tail _ (.tail _ (.tail _ (.tail _ (.tail _ (.tail _ (.head _)))))))))))))),
    ⟨q_of_reads (reads_ofq k (by kernel_rfl) (.tail _ (.tail _ (.tail _ (.tail _ (.tail _ (.head _))))))), s_of_reads (reads_ofq k (by kernel_rfl) (.tail _ (.tail _ (.tail _ (.tail _ (.tail _ (.tail _ (.head _)))))))), folds_of_reads (reads_ofq k (by kernel_rfl) (.tail _ (.tail _ (.tail _ (.tail _ (.tail _ (.tail _ (.tail _ (.head _)))))))))⟩⟩,
    hasR_ofp k (by kernel_rfl) (.head _) (.tail _ (.tail _ (.head _))) (.tail _ (.tail _ (.tail _ (.head _)))) (.tail _ (.tail _ (.tail _ (.tail _ (.head _))))), handle_of_vf h'.2⟩
end Go.Proofs.YtkglcainhkbgbaaGreatDoor
