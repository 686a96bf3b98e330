import Derived.Test.YtmfajpplagbfcaaGreatDoorHB34
import Derived.Test.YtmfajpplagbfcaaGreatDoorHB32
import Derived.Test.YtmfajpplagbfcaaGreatDoorRows
import Derived.Test.YtmfajpplagbfcaaGreatDoorHB25
import Derived.Lib.LaidTab
import Derived.Lib.LaidU8
import Derived.LaidMore
import Derived.Test.YtmfajpplagbfcaaGreatDoorHB30
import Derived.Test.YtmfajpplagbfcaaGreatDoorHB3
namespace Go.Proofs.YtmfajpplagbfcaaGreatDoor
set_option maxRecDepth 100000
open Go Go.RowKit
end Go.Proofs.YtmfajpplagbfcaaGreatDoor
namespace Go.Proofs.YtmfajpplagbfcaaGreatDoor
set_option maxRecDepth 100000
open Go Go.RowKit
def labA (ks : List Int) (s : ByteArray) (ctx : List Int) (n : Int) : List Int := if (s.size ≤ 200 ∧ ctx.length ≤ 255) ∧ 0 ≤ n ∧ n ≤ 8160 then expL ks (infoL s ctx n.toNat) n.toNat else []
theorem labA_len (ks : List Int) (s : ByteArray) (ctx : List Int) (n : Int) : (labA ks s ctx n).length ≤ 8160 := by
  unfold labA
  split
  · rw [expL_len]; omega
  · simp
set_option maxHeartbeats 4000000 in
theorem implLabel_any (w : World) (g : Nat) (a : Option Addr) (c : Nat) (ks : List Int) (hr : Rd w g a .u8 ks) (hk : Byt ks) (hc : ks.length ≤ c) (hn : ks.length ≤ 1048576) (s : ByteArray) (hss : s.size ≤ 1048576) (gd : Nat) (ad : Option Addr) (cd : Nat) (ctx : List Int) (hd : Rd w gd ad .u8 ctx) (hx : Byt ctx) (hcd : ad = none → cd = 0) (hnd : ctx.length ≤ 1048576) (n : Int)
    (hS : HasT w 0 stLh) (hT : HasT w 1 kL) :
    Calls Tryz.prog 93 #[.slice a ks.length c, .string s, .slice ad ctx.length cd, .int .i64 n] w fun e w' => NewRow w.heap.size w' e .u8 (labA ks s ctx n) ∧ Below w.heap.size w w' := by
  have IE := fun W => hide (isExpandable_any W n)
  by_cases c1 : s.size ≤ 200
  · have t1 : decide ((200 : Int) < (s.size : Int)) = false := by simp; omega
    by_cases c2 : ctx.length ≤ 255
    · have t2 : decide ((255 : Int) < (ctx.length : Int)) = false := by simp; omega
      by_cases hin : 0 ≤ n ∧ n ≤ 8160
      · have t0 : decide (0 ≤ n ∧ n ≤ 8160) = true := decide_eq_true hin
        rw [t0] at IE
        obtain ⟨N, rfl⟩ := Int.eq_ofNat_of_zero_le hin.1
        have hN : N ≤ 8160 := by omega
        have NK := hide (newKeyed_any w g a c ks hr hk hc (by omega) hS hT)
        have LI := hide (fun W (b : Below w.heap.size w W) => labelInfo_any W s c1 gd ad cd ctx (hd.up b) c2 hcd N hN)
        have IB := infoL_byt (N := N) c1 hx c2 hN
        have IL := infoL_len s ctx N
        have ED := hide (fun W v1 v2 g' a' c' (h' : Rd W g' a' .u8 (infoL s ctx N)) (p' : (infoL s ctx N).length ≤ c') (b : Below w.heap.size w W) (V1 : HV v1 (maskL (keyL ks) 54)) (V2 : HV v2 (maskL (keyL ks) 92)) => expandD W v1 v2 _ _ (infoL s ctx N) V1 V2 g' a' c' h' IB p' N hN (by rw [maskL_len]; omega) (by rw [maskL_len]; omega) (hT.up b))
        obtain ⟨rs, hrs⟩ : ∃ l, l = labA ks s ctx (N : Int) := ⟨_, rfl⟩
        have HR : Hid (tG (maskL (keyL ks) 54) (maskL (keyL ks) 92) (infoL s ctx N) N ((N + 31) / 32) = rs) := by
          show _ = _
          rw [hrs, tG_exp]
          unfold labA
          rw [if_pos ⟨⟨c1, c2⟩, hin⟩]
          rfl
        rw [← hrs]
        clear hrs hin t0 IL
        rw [HR.out] at ED
        generalize infoL s ctx N = inf at *
        go_enter Tryz.func93, Tryz.ntmps93
        go_wp2_with fail
        refine (IE w).out.mono ?_
        rintro r w0 ⟨rfl, rfl⟩
        go_wp2_with fail
        refine NK.out.mono ?_
        rintro r w1 ⟨⟨v1, v2, rfl, V1, V2⟩, n1⟩
        have ED1 := hide (fun W g' a' c' h' p' b => ED.out W v1 v2 g' a' c' h' p' b V1 V2)
        clear ED NK V1 V2
        generalize v1 ++ v2 = vs at *
        go_wp2_with fail
        refine (LI.out w1 n1).mono ?_
        rintro r w2 ⟨⟨a2, c2', g2, rfl, o2, p2, q2, r2⟩, n2⟩
        have N2 := nxt n1 n2
        go_wp2_with fail
        refine (ED1.out w2 g2 a2 c2' o2.rd q2 N2).mono ?_
        rintro r w3 ⟨⟨a3, c3, g3, rfl, o3, p3, q3, r3⟩, n3⟩
        have y1 := N2.size
        go_wp2
        go_ret
        exact ⟨⟨a3, c3, g3, rfl, o3, p3, q3, by omega⟩, nxt N2 n3⟩
      · have t0 : decide (0 ≤ n ∧ n ≤ 8160) = false := decide_eq_false hin
        rw [t0] at IE
        have e : labA ks s ctx n = [] := by unfold labA; rw [if_neg (fun h => hin h.2)]
        rw [e]
        go_enter Tryz.func93, Tryz.ntmps93
        go_wp2_with fail
        refine (IE w).out.mono ?_
        rintro r w0 ⟨rfl, rfl⟩
        go_wp2
        go_ret
        exact ⟨newRow_z _ _, Below.refl _ _⟩
    · have t2 : decide ((255 : Int) < (ctx.length : Int)) = true := by simp; omega
      have e : labA ks s ctx n = [] := by unfold labA; rw [if_neg (fun h => c2 h.1.2)]
      rw [e]
      go_enter Tryz.func93, Tryz.ntmps93
      go_wp2
      go_ret
      exact ⟨newRow_z _ _, Below.refl _ _⟩
  · have t1 : decide ((200 : Int) < (s.size : Int)) = true := by simp; omega
    have e : labA ks s ctx n = [] := by unfold labA; rw [if_neg (fun h => c1 h.1.1)]
    rw [e]
    go_enter Tryz.func93, Tryz.ntmps93
    go_wp2
    go_ret
    exact ⟨newRow_z _ _, Below.refl _ _⟩
set_option maxHeartbeats 400000 in
theorem implDerive_any (w : World) (g : Nat) (a : Option Addr) (c : Nat) (ks : List Int) (hr : Rd w g a .u8 ks) (hk : Byt ks) (hc : ks.length ≤ c) (hn : ks.length ≤ 1048576) (s : ByteArray) (hss : s.size ≤ 1048576) (gd : Nat) (ad : Option Addr) (cd : Nat) (ctx : List Int) (hd : Rd w gd ad .u8 ctx) (hx : Byt ctx) (hcd : ad = none → cd = 0) (hnd : ctx.length ≤ 1048576)
    (hS : HasT w 0 stLh) (hT : HasT w 1 kL) :
    Calls Tryz.prog 81 #[.slice a ks.length c, .string s, .slice ad ctx.length cd] w fun e w' => NewRow w.heap.size w' e .u8 (labA ks s ctx 32) ∧ Below w.heap.size w w' := by
  have M := hide (implLabel_any w g a c ks hr hk hc hn s hss gd ad cd ctx hd hx hcd hnd 32 hS hT)
  obtain ⟨rs, hrs⟩ : ∃ l, l = labA ks s ctx 32 := ⟨_, rfl⟩
  rw [← hrs] at M ⊢
  clear hrs
  go_enter Tryz.func81, Tryz.ntmps81
  go_wp2_with fail
  refine M.out.mono ?_
  rintro r w1 ⟨⟨a1, c1, g1, rfl, o1, p1, q1, r1⟩, n1⟩
  go_wp2
  go_ret
  exact ⟨⟨a1, c1, g1, rfl, o1, p1, q1, r1⟩, n1⟩
end Go.Proofs.YtmfajpplagbfcaaGreatDoor
namespace Go.Proofs.YtmfajpplagbfcaaGreatDoor
set_option maxRecDepth 100000
open Go.RowKit
theorem gSth : Tryz.prog.globalNamed "loop.example/g00004/impl.startWords" = some 0 := by kernel_rfl
theorem tSth : (Tryz.prog.globals[0]?).map (·.type) = some 118 := by kernel_rfl
theorem gSp : Tryz.prog.globalNamed "loop.example/g00004/impl.stepWords" = some 1 := by kernel_rfl
theorem tSp : (Tryz.prog.globals[1]?).map (·.type) = some 132 := by kernel_rfl
theorem uSt : Tryz.prog.underlying 118 = some (.array 8 117) := by kernel_rfl
theorem uSp : Tryz.prog.underlying 132 = some (.array 80 117) := by kernel_rfl
theorem cSt : Tryz.prog.cellsOf 118 = 8 := by kernel_rfl
theorem cSp : Tryz.prog.cellsOf 132 = 80 := by kernel_rfl
theorem cUw : Tryz.prog.cellsOf 117 = 1 := by kernel_rfl
theorem uUw : Tryz.prog.underlying 117 = some (.int .u64) := by kernel_rfl
theorem hasT_of {W : World} {n : String} {g : Nat} {ty : TypeId} {N : Nat} {l : List Int} (hn : Tryz.prog.globalNamed n = some g) (ht : (Tryz.prog.globals[g]?).map (·.type) = some ty) (hu : Tryz.prog.underlying ty = some (.array N 117)) (hc : Tryz.prog.cellsOf ty = N)
    (h : Lib.VarReads Tryz.prog W n (.agg (l.map fun x => .lit (.int .u64 x)))) : HasT W g l := by
  obtain ⟨g', t, cs, fuel, p, hg, ht', hv, hd⟩ := h
  obtain rfl := Option.some.inj (hn.symm.trans hg)
  obtain rfl := Option.some.inj (ht.symm.trans ht')
  have hcs := Lib.cells_of_tab (zs := l) hu uUw cUw hc hd
  intro k hk
  rw [World.var?_cell hg hv k]
  obtain ⟨m⟩ := cs
  simp only at hcs
  subst hcs
  simp [hk]
theorem reads_ofH {l : List (String × DataW Unit)} {W : World} (h : laidMetH Tryz.prog l W) (hp : (l.all fun x => x.2.handleName?.isNone) = true) {n : String} {d : DataW Unit} (hm : (n, d) ∈ l) : Lib.VarReads Tryz.prog W n d := by
  rw [MakeChecks.laidMetH_plain _ _ _ hp] at h
  exact Lib.laidMet.reads h hm
theorem start_of {W : World} (h : Lib.VarReads Tryz.prog W "loop.example/g00004/impl.startWords" Rows.laid_loop_example_g00004_impl_startWords) : HasT W 0 stLh := hasT_of gSth tSth uSt cSt h
theorem steps_of {W : World} (h : Lib.VarReads Tryz.prog W "loop.example/g00004/impl.stepWords" Rows.laid_loop_example_g00004_impl_stepWords) : HasT W 1 kL := hasT_of gSp tSp uSp cSp h
def HasH (W : World) : Prop := HasT W 0 stLh ∧ HasT W 1 kL
theorem HasH.up {w w' : World} (h : HasH w) (n : Below w.heap.size w w') : HasH w' := ⟨h.1.up n, h.2.up n⟩
end Go.Proofs.YtmfajpplagbfcaaGreatDoor
namespace Go.Proofs.YtmfajpplagbfcaaGreatDoor
set_option maxRecDepth 100000
open Go Go.RowKit
theorem NewRow.low {B B' : Nat} {w : World} {e : Ending} {k : IntKind} {ys : List Int} (h : NewRow B w e k ys) (hb : B' ≤ B) : NewRow B' w e k ys := by
  obtain ⟨a, c, g, h1, h2, h3, h4, h5⟩ := h
  exact ⟨a, c, g, h1, h2, h3, h4, Nat.le_trans hb h5⟩
theorem labA_byt (ks : List Int) (s : ByteArray) (ctx : List Int) (n : Int) : Byt (labA ks s ctx n) := by
  unfold labA
  split
  · exact expL_byt _ _ _
  · intro i
    simp
theorem macL_len (ks xs : List Int) : (macL ks xs).length = 32 := by unfold macL; exact hash_len32 _
theorem macL_byt (ks xs : List Int) : Byt (macL ks xs) := by unfold macL; exact hash_byt32 _
structure Lq (w : World) (a : Option Addr) (c : Nat) (xs : List Int) : Prop where
  r : ∃ g, Rd w g a .u8 xs
  b : Byt xs
  p : a = none → c = 0
  q : xs.length ≤ c
  l : xs.length ≤ 1048576
theorem Lq.up {w w' : World} {a : Option Addr} {c : Nat} {xs : List Int} (h : Lq w a c xs) (n : Below w.heap.size w w') : Lq w' a c xs := by
  obtain ⟨⟨g, r⟩, b, p, q, l⟩ := h
  exact ⟨⟨g, r.up n⟩, b, p, q, l⟩
theorem Lq.nil (w : World) : Lq w none 0 [] := ⟨⟨0, Rd.nil _ _ _ _⟩, byt_nil, fun _ => rfl, Nat.le_refl _, by simp⟩
theorem Lq.of {w : World} {a : Option Addr} {c g : Nat} {ys : List Int} (o : Own w g a .u8 ys) (p : a = none → c = 0) (q : ys.length ≤ c) (b : Byt ys) (l : ys.length ≤ 1048576) : Lq w a c ys := ⟨⟨g, o.rd⟩, b, p, q, l⟩
def lbB : ByteArray := ⟨#[98, 105, 110, 100, 101, 114]⟩
def lbF : ByteArray := ⟨#[102, 105, 110, 105, 115, 104, 101, 100]⟩
def hE : List Int := hashL32 []
theorem hE_len : hE.length = 32 := hash_len32 _
theorem hE_byt : Byt hE := hash_byt32 _
def bx (w : World) (x y : Value) : World := w.alloc (.cells #[x, y] 45)
theorem bx_up (w : World) (x y : Value) : Below w.heap.size w (bx w x y) := (Below.refl _ _).alloc (Nat.le_refl _) _
set_option maxHeartbeats 1000000 in
theorem sExtract_any (w : World) (hH : HasH w) {a a' : Option Addr} {c c' : Nat} {ks xs : List Int} (h1 : Lq w a c ks) (h2 : Lq w a' c' xs) :
    Calls Tryz.prog 43 #[.agg #[.slice a ks.length c, .slice a' xs.length c']] w fun e w' => NewRow w.heap.size w' e .u8 (macL ks xs) ∧ Below w.heap.size w w' := by
  have n1 := bx_up w (.slice a ks.length c) (.slice a' xs.length c')
  obtain ⟨⟨g, r⟩, b, p, q, l⟩ := h1
  obtain ⟨⟨g', r'⟩, b', p', q', l'⟩ := h2
  have C := hide (implExtract_any _ g a c ks (r.up n1) b q l g' a' c' xs (r'.up n1) b' q' (by omega) (hH.1.up n1) (hH.2.up n1))
  have N1 := hide n1
  clear r b p q l r' b' p' q' l' n1 hH
  unfold bx at C N1
  generalize macL ks xs = ys at *
  generalize ks.length = m at *
  generalize xs.length = m' at *
  go_enter Tryz.func43, Tryz.ntmps43
  go_wp2_with fail
  refine C.out.mono ?_
  rintro e w1 ⟨⟨a3, c3, g3, rfl, o3, p3, q3, r3⟩, n⟩
  have z1 := N1.out.size
  go_wp2
  go_ret
  exact ⟨⟨a3, c3, g3, rfl, o3, p3, q3, by omega⟩, nxt N1.out n⟩
set_option maxHeartbeats 1000000 in
theorem sExpand_any (w : World) (hH : HasH w) {a : Option Addr} {c : Nat} {ks : List Int} (x : Value) (s : ByteArray) (hs : s.size ≤ 1048576) (n : Int) (h1 : Lq w a c ks) :
    Calls Tryz.prog 83 #[.agg #[.slice a ks.length c, x], .string s, .int .i64 n] w fun e w' => NewRow w.heap.size w' e .u8 (labA ks s [] n) ∧ Below w.heap.size w w' := by
  have n1 := bx_up w (.slice a ks.length c) x
  obtain ⟨⟨g, r⟩, b, p, q, l⟩ := h1
  have C : Hid (Calls Tryz.prog 93 #[.slice a ks.length c, .string s, .slice none 0 0, .int .i64 n] (bx w (.slice a ks.length c) x) fun e w' => NewRow (bx w (.slice a ks.length c) x).heap.size w' e .u8 (labA ks s [] n) ∧ Below (bx w (.slice a ks.length c) x).heap.size (bx w (.slice a ks.length c) x) w') := (implLabel_any _ g a c ks (r.up n1) b q l s hs 0 none 0 [] (Rd.nil _ _ _ _) byt_nil (fun _ => rfl) (by simp) n (hH.1.up n1) (hH.2.up n1))
  have N1 := hide n1
  clear r b p q l n1 hH
  unfold bx at C N1
  generalize labA ks s [] n = ys at *
  generalize ks.length = m at *
  go_enter Tryz.func83, Tryz.ntmps83
  go_wp2_with fail
  refine C.out.mono ?_
  rintro e w1 ⟨⟨a3, c3, g3, rfl, o3, p3, q3, r3⟩, n⟩
  have z1 := N1.out.size
  go_wp2
  go_ret
  exact ⟨⟨a3, c3, g3, rfl, o3, p3, q3, by omega⟩, nxt N1.out n⟩
theorem rowSc : ∃ d, Tryz.prog.underlying 45 = some d ∧ d.isRow = true := ⟨_, Tryz.underlying45, rfl⟩
theorem iSc : (Tryz.prog.info? 45).map (·.size) = some 2 := by kernel_rfl
theorem bx_range (w : World) (x y : Value) : (bx w x y).rangeAt w.heap.size 0 [x, y] := fun j v hj => by
  have h : (bx w x y).heap[w.heap.size]? = some (.cells #[x, y] 45 (0, 0)) := by show (w.heap.push _)[w.heap.size]? = _; simp
  rw [Nat.zero_add, cell_of_row _ _ _ _ _ _ h]
  simpa using hj
end Go.Proofs.YtmfajpplagbfcaaGreatDoor
namespace Go.Proofs.YtmfajpplagbfcaaGreatDoor
set_option maxRecDepth 100000
open Go Go.RowKit
def SC2 (w : World) (v : Value) (B : Nat) (ys : List Int) (x : Value) : Prop := ∃ (a : Option Addr) (c g : Nat), v = .agg #[.slice a ys.length c, x] ∧ Own w g a .u8 ys ∧ (a = none → c = 0) ∧ ys.length ≤ c ∧ B ≤ g
theorem SC2.up {w w' : World} {v : Value} {B : Nat} {ys : List Int} {x : Value} (h : SC2 w v B ys x) (n : Below w.heap.size w w') : SC2 w' v B ys x := by
  obtain ⟨a, c, g, e, o, q⟩ := h
  exact ⟨a, c, g, e, o.up n, q⟩
def SCh (B : Nat) (ys : List Int) (x : Value) : Fact := ⟨fun v w => SC2 w v B ys x, fun n h => h.up n⟩
theorem buSc (w : World) (a a' : Option Addr) (n n' c c' : Nat) : (Instr.build 45 #[(0, .slice a n c), (1, .slice a' n' c')]).run Tryz.prog w = .ok (.agg #[.slice a n c, .slice a' n' c']) w := by kernel_rfl
theorem step_b2 {ops : Array Oper} {Q : Exit → Act → World → Prop} {md : Region.Mode} {F : Nat → Fact} {a0 : Act} {w0 : World} {i : Nat} {o : Oper} {B : Nat} {ys : List Int} {a' : Option Addr} {n' c' : Nat} (hi : ops[i]? = some o) (p q j k : Nat) (hop : o.op = .build 45 #[(0, .tmp p), (1, .tmp q)])
    (hj : waits md ops i j p = true) (hk : waits md ops i k q = true) (hFj : F j = RNh B ys) (hFk : F k = Fact.eq (.slice a' n' c')) (hFi : F i = SCh B ys (.slice a' n' c')) : StepOk Tryz.prog md ops Q F a0 w0 i := by
  refine step_pure hi fun a w _ _ hf => ?_
  have h1 := hf j p hj
  have h2 := hf k q hk
  rw [hFj] at h1
  rw [hFk] at h2
  obtain ⟨a1, c1, g1, e7, o1, p1, q1, r1⟩ := h1
  have x1 : a.eval (.tmp p) = .slice a1 ys.length c1 := e7
  have x2 : a.eval (.tmp q) = .slice a' n' c' := h2
  refine ⟨.agg #[.slice a1 ys.length c1, .slice a' n' c'], ?_, by rw [hFi]; exact ⟨a1, c1, g1, rfl, o1, p1, q1, r1⟩⟩
  have gg : (#[(0, Operand.tmp p), (1, Operand.tmp q)].map fun (n, x) => (n, a.eval x)) = #[(0, Value.slice a1 ys.length c1), (1, .slice a' n' c')] := by simp [x1, x2]
  simp only [execOp, hop, gg]
  rw [Sem.run_bind, buSc]
  rfl
theorem one2 (a a' : Option Addr) (n n' c c' : Nat) : ([.slice a n c, .slice a' n' c'] : List Value).toArray.all (·.oneCell') = true := all_oneCell_toArray fun v hv => by
  simp only [List.mem_cons, List.not_mem_nil, or_false] at hv
  rcases hv with rfl | rfl
  all_goals rfl
theorem there2 {w : World} {q : Nat} {x y : Value} {t : TypeId} (h : w.heap[q]? = some (.cells #[x, y] t (0, 0))) : w.there q 0 2 := fun j hj => by
  rw [Nat.zero_add, cell_of_row _ _ _ _ _ _ h, frozen_of_row _ _ _ _ _ h]
  refine ⟨?_, rfl⟩
  obtain rfl | rfl : j = 0 ∨ j = 1 := by omega
  all_goals rfl
theorem range_up {W W' : World} {q : Nat} {cs : List Value} (h : W.rangeAt q 0 cs) (l : q < W.heap.size) (n : Below W.heap.size W W') : W'.rangeAt q 0 cs := fun j v hj => (World.cell?_of_block (a := ⟨q, 0 + j, none⟩) (n.block q l)).trans (h j v hj)
theorem bx_lt (w : World) (x y : Value) : w.heap.size < (bx w x y).heap.size := by simp [bx]
set_option maxHeartbeats 4000000 in
theorem sDerive_any (w : World) (hH : HasH w) {a a' : Option Addr} {c n' c' : Nat} {ks : List Int} (s : ByteArray) (hs : s.size ≤ 1048576) (h1 : Lq w a c ks) :
    Calls Tryz.prog 49 #[.agg #[.slice a ks.length c, .slice a' n' c'], .string s] w fun e w' => (∃ v, e = .returned v ∧ SC2 w' v w.heap.size (labA ks s hE 32) (.slice a' n' c')) ∧ Below w.heap.size w w' := by
  have n0 := bx_up w (.slice a ks.length c) (.slice a' n' c')
  have z0 := bx_lt w (.slice a ks.length c) (.slice a' n' c')
  have zz : (bx w (.slice a ks.length c) (.slice a' n' c')).heap.size = w.heap.size + 1 := by simp [bx]
  have R0 := bx_range w (.slice a ks.length c) (.slice a' n' c')
  obtain ⟨d3, hd3, hrow3⟩ := rowSc
  have HH := hH.up n0
  have H1 := h1.up n0
  clear hH h1
  obtain ⟨ls, hls⟩ : ∃ l, l = labA ks s hE 32 := ⟨_, rfl⟩
  have HL := hide hls
  rw [← hls]
  clear hls
  unfold bx at n0 z0 zz R0 HH H1
  go_enter Tryz.func49, Tryz.ntmps49
  go_upto_region 1 with fail
  generalize w.alloc (.cells #[.slice a ks.length c, .slice a' n' c'] 45) = wa at *
  have n1 : Below wa.heap.size wa (wa.alloc (.cells #[.slice none 0 0, .slice none 0 0] 45)) := (Below.refl _ _).alloc (Nat.le_refl _) _
  have TH : (wa.alloc (.cells #[.slice none 0 0, .slice none 0 0] 45)).there (w.heap.size + 1) 0 2 := there2 (x := .slice none 0 0) (y := .slice none 0 0) (t := 45) (by rw [← zz]; show (wa.heap.push _)[wa.heap.size]? = _; simp)
  have R1 := range_up R0 z0 n1
  have HH1 := HH.up n1
  have L1 := H1.up n1
  have N1 := nxt n0 n1
  have zb : w.heap.size + 1 < (wa.alloc (.cells #[.slice none 0 0, .slice none 0 0] 45)).heap.size := by simp; omega
  generalize wa.alloc (.cells #[.slice none 0 0, .slice none 0 0] 45) = wb at *
  clear n0 n1 R0 z0 zz HH H1
  refine region_putF 8 7 4 12 _ (fun i => [Fact.eq (.pointer (some ⟨w.heap.size, 0, none⟩)), Fact.eq (.slice a ks.length c), Fact.eq (.string s), RNh wb.heap.size hE, RNh wb.heap.size ls, Fact.eq (.pointer (some ⟨w.heap.size, 1, none⟩)), Fact.eq (.slice a' n' c'), SCh wb.heap.size ls (.slice a' n' c')].getD i Fact.no) (w.heap.size + 1) 0 45 (by kernel_rfl) (by kernel_rfl) rfl rfl rfl (by kernel_rfl) rfl (by kernel_rfl) ?_ ?_
  · intro i hi
    obtain rfl | rfl | rfl | rfl | rfl | rfl | rfl | rfl : i = 0 ∨ i = 1 ∨ i = 2 ∨ i = 3 ∨ i = 4 ∨ i = 5 ∨ i = 6 ∨ i = 7 := by omega
    · refine step_pure rfl fun A ww hb hw hf => ?_
      have e1 : A.tmps[2]?.getD undef = .pointer (some ⟨w.heap.size, 0, none⟩) := gdv (hb.2.2 2 (by kernel_rfl))
      exact ⟨.pointer (some ⟨w.heap.size, 0, none⟩), by simp [go_sem, e1], rfl⟩
    · refine step_pure rfl fun A ww hb hw hf => ?_
      have e3 : A.tmps[5]?.getD undef = .pointer (some ⟨w.heap.size, 0, none⟩) := gdv (hf 0 5 (by kernel_rfl))
      have hc : ww.cell? ⟨w.heap.size, 0, none⟩ = some (.slice a ks.length c) := range_up R1 (by omega) hw 0 _ rfl
      exact ⟨.slice a ks.length c, by simp [go_sem, e3, hc], rfl⟩
    · refine step_pure rfl fun A ww hb hw hf => ?_
      have e1 : A.tmps[1]?.getD undef = .string s := gdv (hb.2.2 1 (by kernel_rfl))
      exact ⟨.string s, by simp [go_sem, e1], rfl⟩
    · refine step_callv rfl 23 _ _ rfl (by kernel_rfl) fun A ww hb hw hf => ?_
      show Calls Tryz.prog 23 #[.slice none 0 0] ww _
      exact (implHash_32 ww 0 none 0 [] (Rd.nil _ _ _ _) byt_nil (Nat.le_refl _) (by simp) (HH1.1.up hw) (HH1.2.up hw)).mono (by rintro r w' ⟨⟨a1, c1, g1, rfl, o1, p1, q1, r1⟩, n⟩; exact ⟨_, rfl, n, a1, c1, g1, rfl, o1, p1, q1, Nat.le_trans hw.size r1⟩)
    · refine step_callv rfl 81 _ _ rfl (by kernel_rfl) fun A ww hb hw hf => ?_
      have e6 : A.tmps.getD 6 undef = .slice a ks.length c := hf 1 6 (by kernel_rfl)
      have e7 : A.tmps.getD 7 undef = .string s := hf 2 7 (by kernel_rfl)
      obtain ⟨a1, c1, g1, e8, o1, p1, q1, r1⟩ := hf 3 8 (by kernel_rfl)
      obtain ⟨⟨g, r⟩, b, p, q, l⟩ := L1.up hw
      show Calls Tryz.prog 81 #[A.tmps.getD 6 undef, A.tmps.getD 7 undef, A.tmps.getD 8 undef] ww _
      rw [e6, e7, e8]
      have D := implDerive_any ww g a c ks r b q l s hs g1 a1 c1 hE o1.rd hE_byt p1 (by rw [hE_len]; decide) (HH1.1.up hw) (HH1.2.up hw)
      rw [← HL.out] at D
      exact D.mono (by rintro r w' ⟨⟨a1, c1, g1, rfl, o1, p1, q1, r1⟩, n⟩; exact ⟨_, rfl, n, a1, c1, g1, rfl, o1, p1, q1, Nat.le_trans hw.size r1⟩)
    · refine step_pure rfl fun A ww hb hw hf => ?_
      have e1 : A.tmps[2]?.getD undef = .pointer (some ⟨w.heap.size, 0, none⟩) := gdv (hb.2.2 2 (by kernel_rfl))
      exact ⟨.pointer (some ⟨w.heap.size, 1, none⟩), by simp [go_sem, e1], rfl⟩
    · refine step_pure rfl fun A ww hb hw hf => ?_
      have e3 : A.tmps[10]?.getD undef = .pointer (some ⟨w.heap.size, 1, none⟩) := gdv (hf 5 10 (by kernel_rfl))
      have hc : ww.cell? ⟨w.heap.size, 1, none⟩ = some (.slice a' n' c') := range_up R1 (by omega) hw 1 _ rfl
      exact ⟨.slice a' n' c', by simp [go_sem, e3, hc], rfl⟩
    · exact step_b2 rfl 9 11 4 6 rfl (by kernel_rfl) (by kernel_rfl) rfl rfl rfl
  intro vs6 W v hw hv3
  have hv3 : SC2 W v wb.heap.size ls (.slice a' n' c') := hv3
  obtain ⟨a1, c1, g1, rfl, o1, p1, q1, r1⟩ := hv3
  have th := there_upn (by omega) TH hw
  refine ⟨[.slice a1 ls.length c1, .slice a' n' c'], rfl, th, iSc, one2 _ _ _ _ _ _, ?_⟩
  have RR := World.rangeAt_setCells_same W (w.heap.size + 1) 0 [.slice a1 ls.length c1, .slice a' n' c'] th
  have OQ := only_setCells W (w.heap.size + 1) [.slice a1 ls.length c1, .slice a' n' c'] 0
  have N2 : Below w.heap.size w (W.setCells (w.heap.size + 1) 0 [.slice a1 ls.length c1, .slice a' n' c']) := (nxt N1 hw).trans (OQ.below (by omega))
  have o1' := o1.only OQ (fun _ => by omega)
  generalize W.setCells (w.heap.size + 1) 0 [.slice a1 ls.length c1, .slice a' n' c'] = W2 at *
  simp only [puts, Act.put, List.setIfInBounds_toArray, List.set_cons_succ, List.set_cons_zero]
  clear o1 OQ th TH R1 N1 HH1 L1
  go_wp2
  exact bodyPost_ret (v := .agg #[.slice a1 ls.length c1, .slice a' n' c']) (results_cell_m Tryz.results49 _ _ (w.heap.size + 1) _ d3 rfl RR hd3 hrow3 iSc) rfl ⟨⟨_, rfl, a1, c1, g1, rfl, o1', p1, q1, by omega⟩, N2⟩
set_option maxHeartbeats 4000000 in
theorem sFinish_any (w : World) (hH : HasH w) {a a' : Option Addr} {c c' : Nat} {ks xs : List Int} (h1 : Lq w a c ks) (h2 : Lq w a' c' xs) :
    Calls Tryz.prog 50 #[.agg #[.slice a ks.length c, .slice a' xs.length c']] w fun e w' => NewRow w.heap.size w' e .u8 (macL (labA ks lbF [] 32) xs) ∧ Below w.heap.size w w' := by
  have n0 := bx_up w (.slice a ks.length c) (.slice a' xs.length c')
  have z0 := bx_lt w (.slice a ks.length c) (.slice a' xs.length c')
  have R1 := bx_range w (.slice a ks.length c) (.slice a' xs.length c')
  obtain ⟨d3, hd3, hrow3⟩ := rowSc
  have HH1 := hH.up n0
  have L1 := h1.up n0
  have L2 := h2.up n0
  clear hH h1 h2
  have LL := labA_len ks lbF [] 32
  have LB := labA_byt ks lbF [] 32
  obtain ⟨ls, hls⟩ : ∃ l, l = labA ks lbF [] 32 := ⟨_, rfl⟩
  rw [← hls] at LL LB
  rw [← hls]
  have HL := hide hls
  clear hls
  unfold bx at n0 z0 R1 HH1 L1 L2
  go_enter Tryz.func50, Tryz.ntmps50
  go_upto_region 1 with fail
  generalize w.alloc (.cells #[.slice a ks.length c, .slice a' xs.length c'] 45) = wb at *
  refine region_end 6 (fun i => [Fact.eq (.agg #[.slice a ks.length c, .slice a' xs.length c']), RNh wb.heap.size ls, Fact.eq (.pointer (some ⟨w.heap.size, 1, none⟩)), Fact.eq (.slice a' xs.length c'), RNh wb.heap.size (macL ls xs), RNh wb.heap.size (macL ls xs)].getD i Fact.no) (by kernel_rfl) (by kernel_rfl) rfl ?_ ?_
  · intro i hi
    obtain rfl | rfl | rfl | rfl | rfl | rfl : i = 0 ∨ i = 1 ∨ i = 2 ∨ i = 3 ∨ i = 4 ∨ i = 5 := by omega
    · refine step_load rfl 45 (.tmp 1) rfl d3 2 hd3 hrow3 iSc fun A ww hb hw hf => ⟨_, 0, [.slice a ks.length c, .slice a' xs.length c'], hb.2.2 1 (by kernel_rfl), range_up R1 z0 hw, rfl, rfl⟩
    · refine step_callv rfl 83 _ _ rfl (by kernel_rfl) fun A ww hb hw hf => ?_
      have e3 : A.tmps.getD 3 undef = .agg #[.slice a ks.length c, .slice a' xs.length c'] := hf 0 3 (by kernel_rfl)
      show Calls Tryz.prog 83 #[A.tmps.getD 3 undef, .string lbF, .int .i64 32] ww _
      rw [e3]
      have D := sExpand_any ww (HH1.up hw) (.slice a' xs.length c') lbF (by decide) 32 (L1.up hw)
      rw [← HL.out] at D
      exact D.mono (by rintro r w' ⟨⟨a1, c1, g1, rfl, o1, p1, q1, r1⟩, n⟩; exact ⟨_, rfl, n, a1, c1, g1, rfl, o1, p1, q1, Nat.le_trans hw.size r1⟩)
    · refine step_pure rfl fun A ww hb hw hf => ?_
      have e1 : A.tmps[1]?.getD undef = .pointer (some ⟨w.heap.size, 0, none⟩) := gdv (hb.2.2 1 (by kernel_rfl))
      exact ⟨.pointer (some ⟨w.heap.size, 1, none⟩), by simp [go_sem, e1], rfl⟩
    · refine step_pure rfl fun A ww hb hw hf => ?_
      have e3 : A.tmps[5]?.getD undef = .pointer (some ⟨w.heap.size, 1, none⟩) := gdv (hf 2 5 (by kernel_rfl))
      have hc : ww.cell? ⟨w.heap.size, 1, none⟩ = some (.slice a' xs.length c') := range_up R1 z0 hw 1 _ rfl
      exact ⟨.slice a' xs.length c', by simp [go_sem, e3, hc], rfl⟩
    · refine step_callv rfl 82 _ _ rfl (by kernel_rfl) fun A ww hb hw hf => ?_
      obtain ⟨a1, c1, g1, e4, o1, p1, q1, r1⟩ := hf 1 4 (by kernel_rfl)
      have e6 : A.tmps.getD 6 undef = .slice a' xs.length c' := hf 3 6 (by kernel_rfl)
      obtain ⟨⟨g, r⟩, b, p, q, l⟩ := L2.up hw
      show Calls Tryz.prog 82 #[A.tmps.getD 4 undef, A.tmps.getD 6 undef] ww _
      rw [e4, e6]
      exact (implMac_any ww g1 a1 c1 ls o1.rd LB q1 (by omega) g a' c' xs r b q (by omega) (HH1.1.up hw) (HH1.2.up hw)).mono (by rintro r w' ⟨⟨a1, c1, g1, rfl, o1, p1, q1, r1⟩, n⟩; exact ⟨_, rfl, n, a1, c1, g1, rfl, o1, p1, q1, Nat.le_trans hw.size r1⟩)
    · refine step_pure rfl fun A ww hb hw hf => ?_
      obtain ⟨a1, c1, g1, e7, o1, p1, q1, r1⟩ := hf 4 7 (by kernel_rfl)
      exact ⟨.slice a1 (macL ls xs).length c1, by simp [go_sem, gdv e7], ⟨a1, c1, g1, rfl, o1, p1, q1, r1⟩⟩
  intro A W hb hw hF
  have e2 := hF 5 2 (by kernel_rfl)
  obtain ⟨vs, hvs⟩ : ∃ vs : Nat → Value, ∀ d, A.tmps.getD d undef = vs d := ⟨_, fun _ => rfl⟩
  rw [hvs] at e2
  rw [puts_of (md := .any) (k := 6) (by kernel_rfl) rfl hb vs hvs]
  have N9 := nxt n0 hw
  clear hb hF hvs hw R1 HH1 L1 L2 HL LB LL
  obtain ⟨a1, c1, g1, e3, o1, p1, q1, r1⟩ := e2
  simp only [puts, e3, Act.put, List.setIfInBounds_toArray, List.set_cons_succ, List.set_cons_zero]
  go_wp2
  go_ret
  exact ⟨⟨a1, c1, g1, rfl, o1, p1, q1, by omega⟩, N9⟩
set_option maxHeartbeats 1000000 in
theorem sBind_any (w : World) (hH : HasH w) {a a' : Option Addr} {c c' : Nat} {ks xs : List Int} (h1 : Lq w a c ks) (h2 : Lq w a' c' xs) :
    Calls Tryz.prog 24 #[.agg #[.slice a ks.length c, .slice a' xs.length c']] w fun e w' => NewRow w.heap.size w' e .u8 (macL (labA (labA ks lbB hE 32) lbF [] 32) xs) ∧ Below w.heap.size w w' := by
  have n1 := bx_up w (.slice a ks.length c) (.slice a' xs.length c')
  have C := hide (sDerive_any (a' := a') (n' := xs.length) (c' := c') _ (hH.up n1) lbB (by decide) (h1.up n1))
  have N1 := hide n1
  obtain ⟨d2, hd2, hrow2⟩ := rowSc
  have RG := hide (bx_range w (.slice a ks.length c) (.slice a' xs.length c'))
  have LL := labA_len ks lbB hE 32
  have LB := labA_byt ks lbB hE 32
  clear h1 n1
  unfold bx at C N1 RG
  generalize labA ks lbB hE 32 = ls at *
  have EX := fun W (n : Below w.heap.size w W) a1 c1 (h : Lq W a1 c1 ls) => hide (sFinish_any W (hH.up n) h (h2.up n))
  generalize macL (labA ls lbF [] 32) xs = ys at *
  have LLh := hide LL
  clear LL
  unfold lbB at C
  go_enter Tryz.func24, Tryz.ntmps24
  go_wp2_with fail
  refine C.out.mono ?_
  rintro e w1 ⟨⟨v, rfl, a3, c3, g3, rfl, o3, p3, q3, r3⟩, n⟩
  have z1 := N1.out.size
  have n2 := nxt N1.out n
  have E := EX w1 n2 a3 c3 (Lq.of o3 p3 q3 LB (by have := LLh.out; omega))
  clear EX o3 p3 q3 C RG h2 hH
  go_wp2_with fail
  refine E.out.mono ?_
  rintro e w2 ⟨⟨a4, c4, g4, rfl, o4, p4, q4, r4⟩, n4⟩
  have z2 := n2.size
  go_wp2
  go_ret
  exact ⟨⟨a4, c4, g4, rfl, o4, p4, q4, by omega⟩, nxt n2 n4⟩
end Go.Proofs.YtmfajpplagbfcaaGreatDoor
