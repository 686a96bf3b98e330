import Derived.Test.YtnfciobpfiibcaaDoorXlB
import Derived.Test.YtnfciobpfiibcaaDoorXcS
import Derived.Test.YtnfciobpfiibcaaDoorRows
import Derived.Test.YtnfciobpfiibcaaDoorHsT
import Derived.Lib.LaidTab
import Derived.Lib.LaidU8
import Derived.LaidMore
import Derived.Test.YtnfciobpfiibcaaDoorHq32
import Derived.Test.YtnfciobpfiibcaaDoorHelp

/-
  ExpandLabel and Derive: the program's and the model's.
-/
namespace Go.Proofs.YtnfciobpfiibcaaDoor
set_option maxRecDepth 100000
open Go Go.RowKit

/-- The whole answer. -/
def labA (ks : List Int) (s : ByteArray) (ctx : List Int) (n : Int) : List Int := if (s.size ≤ 200 ∧ ctx.length ≤ 255) ∧ 0 ≤ n ∧ n ≤ 8160 then expL ks (infoL s ctx n.toNat) n.toNat else []
theorem labA_len (ks : List Int) (s : ByteArray) (ctx : List Int) (n : Int) : (labA ks s ctx n).length ≤ 8160 := by
  unfold labA
  split
  · rw [expL_len]; omega
  · simp
set_option maxHeartbeats 4000000 in
theorem implLabel_any (w : World) (g : Nat) (a : Option Addr) (c : Nat) (ks : List Int) (hr : Rd w g a .u8 ks) (hk : Byt ks) (hc : ks.length ≤ c) (hn : ks.length ≤ 1048576) (s : ByteArray) (hss : s.size ≤ 1048576) (gd : Nat) (ad : Option Addr) (cd : Nat) (ctx : List Int) (hd : Rd w gd ad .u8 ctx) (hx : Byt ctx) (hcd : ad = none → cd = 0) (hnd : ctx.length ≤ 1048576) (n : Int)
    (hS : HasT w 0 stLh) (hT : HasT w 1 kL) :
    Calls Tryd.prog 62 #[.slice a ks.length c, .string s, .slice ad ctx.length cd, .int .i64 n] w fun e w' => NewRow w.heap.size w' e .u8 (labA ks s ctx n) ∧ Below w.heap.size w w' := by
  have IE := fun W => hide (isExpandable_any W n)
  by_cases c1 : s.size ≤ 200
  · have t1 : decide ((200 : Int) < (s.size : Int)) = false := by simp; omega
    by_cases c2 : ctx.length ≤ 255
    · have t2 : decide ((255 : Int) < (ctx.length : Int)) = false := by simp; omega
      by_cases hin : 0 ≤ n ∧ n ≤ 8160
      · have t0 : decide (0 ≤ n ∧ n ≤ 8160) = true := decide_eq_true hin
        rw [t0] at IE
        obtain ⟨N, rfl⟩ := Int.eq_ofNat_of_zero_le hin.1
        have hN : N ≤ 8160 := by omega
        have NK := hide (newKeyed_any w g a c ks hr hk hc (by omega) hS hT)
        have LI := hide (fun W (b : Below w.heap.size w W) => labelInfo_any W s c1 gd ad cd ctx (hd.up b) c2 hcd N hN)
        have IB := infoL_byt (N := N) c1 hx c2 hN
        have IL := infoL_len s ctx N
        have ED := hide (fun W v1 v2 g' a' c' (h' : Rd W g' a' .u8 (infoL s ctx N)) (p' : (infoL s ctx N).length ≤ c') (b : Below w.heap.size w W) (V1 : HV v1 (maskL (keyL ks) 54)) (V2 : HV v2 (maskL (keyL ks) 92)) => expandD W v1 v2 _ _ (infoL s ctx N) V1 V2 g' a' c' h' IB p' N hN (by rw [maskL_len]; omega) (by rw [maskL_len]; omega) (hT.up b))
        obtain ⟨rs, hrs⟩ : ∃ l, l = labA ks s ctx (N : Int) := ⟨_, rfl⟩
        have HR : Hid (tG (maskL (keyL ks) 54) (maskL (keyL ks) 92) (infoL s ctx N) N ((N + 31) / 32) = rs) := by
          show _ = _
          rw [hrs, tG_exp]
          unfold labA
          rw [if_pos ⟨⟨c1, c2⟩, hin⟩]
          rfl
        rw [← hrs]
        clear hrs hin t0 IL
        rw [HR.out] at ED
        generalize infoL s ctx N = inf at *
        go_enter Tryd.func62, Tryd.ntmps62
        go_wp2_with fail
        refine (IE w).out.mono ?_
        rintro r w0 ⟨rfl, rfl⟩
        go_wp2_with fail
        refine NK.out.mono ?_
        rintro r w1 ⟨⟨v1, v2, rfl, V1, V2⟩, n1⟩
        have ED1 := hide (fun W g' a' c' h' p' b => ED.out W v1 v2 g' a' c' h' p' b V1 V2)
        clear ED NK V1 V2
        generalize v1 ++ v2 = vs at *
        go_wp2_with fail
        refine (LI.out w1 n1).mono ?_
        rintro r w2 ⟨⟨a2, c2', g2, rfl, o2, p2, q2, r2⟩, n2⟩
        have N2 := nxt n1 n2
        go_wp2_with fail
        refine (ED1.out w2 g2 a2 c2' o2.rd q2 N2).mono ?_
        rintro r w3 ⟨⟨a3, c3, g3, rfl, o3, p3, q3, r3⟩, n3⟩
        have y1 := N2.size
        go_wp2
        go_ret
        exact ⟨⟨a3, c3, g3, rfl, o3, p3, q3, by omega⟩, nxt N2 n3⟩
      · have t0 : decide (0 ≤ n ∧ n ≤ 8160) = false := decide_eq_false hin
        rw [t0] at IE
        have e : labA ks s ctx n = [] := by unfold labA; rw [if_neg (fun h => hin h.2)]
        rw [e]
        go_enter Tryd.func62, Tryd.ntmps62
        go_wp2_with fail
        refine (IE w).out.mono ?_
        rintro r w0 ⟨rfl, rfl⟩
        go_wp2
        go_ret
        exact ⟨newRow_z _ _, Below.refl _ _⟩
    · have t2 : decide ((255 : Int) < (ctx.length : Int)) = true := by simp; omega
      have e : labA ks s ctx n = [] := by unfold labA; rw [if_neg (fun h => c2 h.1.2)]
      rw [e]
      go_enter Tryd.func62, Tryd.ntmps62
      go_wp2
      go_ret
      exact ⟨newRow_z _ _, Below.refl _ _⟩
  · have t1 : decide ((200 : Int) < (s.size : Int)) = true := by simp; omega
    have e : labA ks s ctx n = [] := by unfold labA; rw [if_neg (fun h => c1 h.1.1)]
    rw [e]
    go_enter Tryd.func62, Tryd.ntmps62
    go_wp2
    go_ret
    exact ⟨newRow_z _ _, Below.refl _ _⟩
set_option maxHeartbeats 4000000 in
theorem specLabel_any (w : World) (g : Nat) (a : Option Addr) (c : Nat) (ks : List Int) (hr : Rd w g a .u8 ks) (hk : Byt ks) (hc : a = none → c = 0) (hn : ks.length ≤ 1048576) (s : ByteArray) (hss : s.size ≤ 1048576) (gd : Nat) (ad : Option Addr) (cd : Nat) (ctx : List Int) (hd : Rd w gd ad .u8 ctx) (hx : Byt ctx) (hcd : ad = none → cd = 0) (hnd : ctx.length ≤ 1048576) (n : Int) :
    Calls Tryd.prog 39 #[.slice a ks.length c, .string s, .slice ad ctx.length cd, .int .i64 n] w fun e w' => NewRow w.heap.size w' e .u8 (labA ks s ctx n) ∧ Below w.heap.size w w' := by
  have hal : Below w.heap.size w (w.alloc (.cells #[] 5)) := (Below.refl _ _).alloc (Nat.le_refl _) _
  by_cases c1 : s.size ≤ 200
  · have t1 : decide ((200 : Int) < (s.size : Int)) = false := by simp; omega
    by_cases c2 : ctx.length ≤ 255
    · have t2 : decide ((255 : Int) < (ctx.length : Int)) = false := by simp; omega
      by_cases c3 : 0 ≤ n
      · have t3 : decide (n < 0) = false := by simp; omega
        by_cases c4 : n ≤ 8160
        · have t4 : decide (8160 < n) = false := by simp; omega
          obtain ⟨N, rfl⟩ := Int.eq_ofNat_of_zero_le c3
          have hN : N ≤ 8160 := by omega
          have LI := hide (l7Label_any w s c1 gd ad cd ctx hd c2 hcd N hN)
          have IB := infoL_byt (N := N) c1 hx c2 hN
          have IL := infoL_len s ctx N
          obtain ⟨rs, hrs⟩ : ∃ l, l = labA ks s ctx (N : Int) := ⟨_, rfl⟩
          have HR : Hid (expA ks (infoL s ctx N) (N : Int) = rs) := by
            show _ = _
            rw [hrs, expA_of _ _ hN]
            unfold labA
            rw [if_pos ⟨⟨c1, c2⟩, by omega⟩]
            rfl
          rw [← hrs]
          clear hrs
          have ILH : (infoL s ctx N).length ≤ 1048576 := by omega
          clear IL
          generalize infoL s ctx N = inf at *
          go_enter Tryd.func39, Tryd.ntmps39
          go_wp2_with fail
          refine LI.out.mono ?_
          rintro r w1 ⟨⟨a2, c2', g2, rfl, o2, p2, q2, r2⟩, n1⟩
          have SE := specExpand_any w1 g a c ks (hr.up n1) hk hc hn g2 a2 c2' inf o2.rd IB p2 ILH (N : Int)
          rw [HR.out] at SE
          have SH := hide SE
          clear SE LI
          go_wp2_with fail
          refine SH.out.mono ?_
          rintro r w3 ⟨⟨a3, c3, g3, rfl, o3, p3, q3, r3⟩, n3⟩
          have y1 := n1.size
          go_wp2
          go_ret
          exact ⟨⟨a3, c3, g3, rfl, o3, p3, q3, by omega⟩, nxt n1 n3⟩
        · have t4 : decide (8160 < n) = true := by simp; omega
          have e : labA ks s ctx n = [] := by unfold labA; rw [if_neg (fun h => c4 h.2.2)]
          rw [e]
          go_enter Tryd.func39, Tryd.ntmps39
          go_wp2
          go_ret
          exact ⟨newRow_e _ _, hal⟩
      · have t3 : decide (n < 0) = true := by simp; omega
        have e : labA ks s ctx n = [] := by unfold labA; rw [if_neg (fun h => c3 h.2.1)]
        rw [e]
        go_enter Tryd.func39, Tryd.ntmps39
        go_wp2
        go_ret
        exact ⟨newRow_e _ _, hal⟩
    · have t2 : decide ((255 : Int) < (ctx.length : Int)) = true := by simp; omega
      have e : labA ks s ctx n = [] := by unfold labA; rw [if_neg (fun h => c2 h.1.2)]
      rw [e]
      go_enter Tryd.func39, Tryd.ntmps39
      go_wp2
      go_ret
      exact ⟨newRow_e _ _, hal⟩
  · have t1 : decide ((200 : Int) < (s.size : Int)) = true := by simp; omega
    have e : labA ks s ctx n = [] := by unfold labA; rw [if_neg (fun h => c1 h.1.1)]
    rw [e]
    go_enter Tryd.func39, Tryd.ntmps39
    go_wp2
    go_ret
    exact ⟨newRow_e _ _, hal⟩
set_option maxHeartbeats 400000 in
theorem implDerive_any (w : World) (g : Nat) (a : Option Addr) (c : Nat) (ks : List Int) (hr : Rd w g a .u8 ks) (hk : Byt ks) (hc : ks.length ≤ c) (hn : ks.length ≤ 1048576) (s : ByteArray) (hss : s.size ≤ 1048576) (gd : Nat) (ad : Option Addr) (cd : Nat) (ctx : List Int) (hd : Rd w gd ad .u8 ctx) (hx : Byt ctx) (hcd : ad = none → cd = 0) (hnd : ctx.length ≤ 1048576)
    (hS : HasT w 0 stLh) (hT : HasT w 1 kL) :
    Calls Tryd.prog 79 #[.slice a ks.length c, .string s, .slice ad ctx.length cd] w fun e w' => NewRow w.heap.size w' e .u8 (labA ks s ctx 32) ∧ Below w.heap.size w w' := by
  have M := hide (implLabel_any w g a c ks hr hk hc hn s hss gd ad cd ctx hd hx hcd hnd 32 hS hT)
  obtain ⟨rs, hrs⟩ : ∃ l, l = labA ks s ctx 32 := ⟨_, rfl⟩
  rw [← hrs] at M ⊢
  clear hrs
  go_enter Tryd.func79, Tryd.ntmps79
  go_wp2_with fail
  refine M.out.mono ?_
  rintro r w1 ⟨⟨a1, c1, g1, rfl, o1, p1, q1, r1⟩, n1⟩
  go_wp2
  go_ret
  exact ⟨⟨a1, c1, g1, rfl, o1, p1, q1, r1⟩, n1⟩
set_option maxHeartbeats 400000 in
theorem specDerive_any (w : World) (g : Nat) (a : Option Addr) (c : Nat) (ks : List Int) (hr : Rd w g a .u8 ks) (hk : Byt ks) (hc : a = none → c = 0) (hn : ks.length ≤ 1048576) (s : ByteArray) (hss : s.size ≤ 1048576) (gd : Nat) (ad : Option Addr) (cd : Nat) (ctx : List Int) (hd : Rd w gd ad .u8 ctx) (hx : Byt ctx) (hcd : ad = none → cd = 0) (hnd : ctx.length ≤ 1048576) :
    Calls Tryd.prog 47 #[.slice a ks.length c, .string s, .slice ad ctx.length cd] w fun e w' => NewRow w.heap.size w' e .u8 (labA ks s ctx 32) ∧ Below w.heap.size w w' := by
  have M := hide (specLabel_any w g a c ks hr hk hc hn s hss gd ad cd ctx hd hx hcd hnd 32)
  obtain ⟨rs, hrs⟩ : ∃ l, l = labA ks s ctx 32 := ⟨_, rfl⟩
  rw [← hrs] at M ⊢
  clear hrs
  go_enter Tryd.func47, Tryd.ntmps47
  go_wp2_with fail
  refine M.out.mono ?_
  rintro r w1 ⟨⟨a1, c1, g1, rfl, o1, p1, q1, r1⟩, n1⟩
  go_wp2
  go_ret
  exact ⟨⟨a1, c1, g1, rfl, o1, p1, q1, r1⟩, n1⟩
end Go.Proofs.YtnfciobpfiibcaaDoor

/-
  What the listed words give the walks of the hashes (written by gens/lhash.py).
-/
namespace Go.Proofs.YtnfciobpfiibcaaDoor
set_option maxRecDepth 100000
open Go.RowKit

theorem gSth : Tryd.prog.globalNamed "loop.example/g00004/impl.startWords" = some 0 := by kernel_rfl
theorem tSth : (Tryd.prog.globals[0]?).map (·.type) = some 68 := by kernel_rfl
theorem gSp : Tryd.prog.globalNamed "loop.example/g00004/impl.stepWords" = some 1 := by kernel_rfl
theorem tSp : (Tryd.prog.globals[1]?).map (·.type) = some 88 := by kernel_rfl
theorem uSt : Tryd.prog.underlying 68 = some (.array 8 67) := by kernel_rfl
theorem uSp : Tryd.prog.underlying 88 = some (.array 80 67) := by kernel_rfl
theorem cSt : Tryd.prog.cellsOf 68 = 8 := by kernel_rfl
theorem cSp : Tryd.prog.cellsOf 88 = 80 := by kernel_rfl
theorem cUw : Tryd.prog.cellsOf 67 = 1 := by kernel_rfl
theorem uUw : Tryd.prog.underlying 67 = some (.int .u64) := by kernel_rfl
theorem hasT_of {W : World} {n : String} {g : Nat} {ty : TypeId} {N : Nat} {l : List Int} (hn : Tryd.prog.globalNamed n = some g) (ht : (Tryd.prog.globals[g]?).map (·.type) = some ty) (hu : Tryd.prog.underlying ty = some (.array N 67)) (hc : Tryd.prog.cellsOf ty = N)
    (h : Lib.VarReads Tryd.prog W n (.agg (l.map fun x => .lit (.int .u64 x)))) : HasT W g l := by
  obtain ⟨g', t, cs, fuel, p, hg, ht', hv, hd⟩ := h
  obtain rfl := Option.some.inj (hn.symm.trans hg)
  obtain rfl := Option.some.inj (ht.symm.trans ht')
  have hcs := Lib.cells_of_tab (zs := l) hu uUw cUw hc hd
  intro k hk
  rw [World.var?_cell hg hv k]
  obtain ⟨m⟩ := cs
  simp only at hcs
  subst hcs
  simp [hk]
theorem reads_ofH {l : List (String × DataW Unit)} {W : World} (h : laidMetH Tryd.prog l W) (hp : (l.all fun x => x.2.handleName?.isNone) = true) {n : String} {d : DataW Unit} (hm : (n, d) ∈ l) : Lib.VarReads Tryd.prog W n d := by
  rw [MakeChecks.laidMetH_plain _ _ _ hp] at h
  exact Lib.laidMet.reads h hm
theorem start_of {W : World} (h : Lib.VarReads Tryd.prog W "loop.example/g00004/impl.startWords" Rows.laid_loop_example_g00004_impl_startWords) : HasT W 0 stLh := hasT_of gSth tSth uSt cSt h
theorem steps_of {W : World} (h : Lib.VarReads Tryd.prog W "loop.example/g00004/impl.stepWords" Rows.laid_loop_example_g00004_impl_stepWords) : HasT W 1 kL := hasT_of gSp tSp uSp cSp h
def HasH (W : World) : Prop := HasT W 0 stLh ∧ HasT W 1 kL
theorem HasH.up {w w' : World} (h : HasH w) (n : Below w.heap.size w w') : HasH w' := ⟨h.1.up n, h.2.up n⟩
end Go.Proofs.YtnfciobpfiibcaaDoor

/-
  The steps of the program's schedule (written by gens/ksa.py).
-/
namespace Go.Proofs.YtnfciobpfiibcaaDoor
set_option maxRecDepth 100000
open Go Go.RowKit

theorem NewRow.low {B B' : Nat} {w : World} {e : Ending} {k : IntKind} {ys : List Int} (h : NewRow B w e k ys) (hb : B' ≤ B) : NewRow B' w e k ys := by
  obtain ⟨a, c, g, h1, h2, h3, h4, h5⟩ := h
  exact ⟨a, c, g, h1, h2, h3, h4, Nat.le_trans hb h5⟩
theorem labA_byt (ks : List Int) (s : ByteArray) (ctx : List Int) (n : Int) : Byt (labA ks s ctx n) := by
  unfold labA
  split
  · exact expL_byt _ _ _
  · intro i
    simp
theorem labA_full (ks : List Int) (s : ByteArray) (ctx : List Int) (n : Nat) (hs : s.size ≤ 200) (hc : ctx.length ≤ 255) (hn : n ≤ 8160) : (labA ks s ctx (n : Int)).length = n := by
  unfold labA
  rw [if_pos ⟨⟨hs, hc⟩, by omega⟩, expL_len]
  omega
theorem macL_len (ks xs : List Int) : (macL ks xs).length = 32 := by unfold macL; exact hash_len32 _
theorem macL_byt (ks xs : List Int) : Byt (macL ks xs) := by unfold macL; exact hash_byt32 _
/-- A list that may be read, as the calls take it. -/
structure Lq (w : World) (a : Option Addr) (c : Nat) (xs : List Int) : Prop where
  r : ∃ g, Rd w g a .u8 xs
  b : Byt xs
  p : a = none → c = 0
  q : xs.length ≤ c
  l : xs.length ≤ 1048576
theorem Lq.up {w w' : World} {a : Option Addr} {c : Nat} {xs : List Int} (h : Lq w a c xs) (n : Below w.heap.size w w') : Lq w' a c xs := by
  obtain ⟨⟨g, r⟩, b, p, q, l⟩ := h
  exact ⟨⟨g, r.up n⟩, b, p, q, l⟩
theorem Lq.nil (w : World) : Lq w none 0 [] := ⟨⟨0, Rd.nil _ _ _ _⟩, byt_nil, fun _ => rfl, Nat.le_refl _, by simp⟩
theorem Lq.of {w : World} {a : Option Addr} {c g : Nat} {ys : List Int} (o : Own w g a .u8 ys) (p : a = none → c = 0) (q : ys.length ≤ c) (b : Byt ys) (l : ys.length ≤ 1048576) : Lq w a c ys := ⟨⟨g, o.rd⟩, b, p, q, l⟩
def lbD : ByteArray := ⟨#[100, 101, 114, 105, 118, 101, 100]⟩
def lbB : ByteArray := ⟨#[98, 105, 110, 100, 101, 114]⟩
def lbF : ByteArray := ⟨#[102, 105, 110, 105, 115, 104, 101, 100]⟩
def lbU : ByteArray := ⟨#[117, 112, 100, 97, 116, 101]⟩
def lbT : ByteArray := ⟨#[116, 105, 99, 107, 101, 116]⟩
def lbK : ByteArray := ⟨#[107, 101, 121]⟩
def lbI : ByteArray := ⟨#[105, 118]⟩
/-- The hash of nothing. -/
def hE : List Int := hashL32 []
theorem hE_len : hE.length = 32 := hash_len32 _
theorem hE_byt : Byt hE := hash_byt32 _
/-- The box of a schedule. -/
def bx (w : World) (x y : Value) : World := w.alloc (.cells #[x, y] 36)
theorem bx_up (w : World) (x y : Value) : Below w.heap.size w (bx w x y) := (Below.refl _ _).alloc (Nat.le_refl _) _

set_option maxHeartbeats 1000000 in
theorem sExtract_any (w : World) (hH : HasH w) {a a' : Option Addr} {c c' : Nat} {ks xs : List Int} (h1 : Lq w a c ks) (h2 : Lq w a' c' xs) :
    Calls Tryd.prog 38 #[.agg #[.slice a ks.length c, .slice a' xs.length c']] w fun e w' => NewRow w.heap.size w' e .u8 (macL ks xs) ∧ Below w.heap.size w w' := by
  have n1 := bx_up w (.slice a ks.length c) (.slice a' xs.length c')
  obtain ⟨⟨g, r⟩, b, p, q, l⟩ := h1
  obtain ⟨⟨g', r'⟩, b', p', q', l'⟩ := h2
  have C := hide (implExtract_any _ g a c ks (r.up n1) b q l g' a' c' xs (r'.up n1) b' q' (by omega) (hH.1.up n1) (hH.2.up n1))
  have N1 := hide n1
  clear r b p q l r' b' p' q' l' n1 hH
  unfold bx at C N1
  generalize macL ks xs = ys at *
  generalize ks.length = m at *
  generalize xs.length = m' at *
  go_enter Tryd.func38, Tryd.ntmps38
  go_wp2_with fail
  refine C.out.mono ?_
  rintro e w1 ⟨⟨a3, c3, g3, rfl, o3, p3, q3, r3⟩, n⟩
  have z1 := N1.out.size
  go_wp2
  go_ret
  exact ⟨⟨a3, c3, g3, rfl, o3, p3, q3, by omega⟩, nxt N1.out n⟩
set_option maxHeartbeats 1000000 in
theorem sTicket_any (w : World) (hH : HasH w) {a a' : Option Addr} {c c' : Nat} {ks xs : List Int} (h1 : Lq w a c ks) (h2 : Lq w a' c' xs) :
    Calls Tryd.prog 44 #[.agg #[.slice a ks.length c, .slice a' xs.length c']] w fun e w' => NewRow w.heap.size w' e .u8 (labA ks lbT xs 32) ∧ Below w.heap.size w w' := by
  have n1 := bx_up w (.slice a ks.length c) (.slice a' xs.length c')
  obtain ⟨⟨g, r⟩, b, p, q, l⟩ := h1
  obtain ⟨⟨g', r'⟩, b', p', q', l'⟩ := h2
  have C := hide (implLabel_any _ g a c ks (r.up n1) b q l lbT (by decide) g' a' c' xs (r'.up n1) b' p' l' 32 (hH.1.up n1) (hH.2.up n1))
  have N1 := hide n1
  clear r b p q l r' b' p' q' l' n1 hH
  unfold bx at C N1
  generalize labA ks lbT xs 32 = ys at *
  unfold lbT at C
  generalize ks.length = m at *
  generalize xs.length = m' at *
  go_enter Tryd.func44, Tryd.ntmps44
  go_wp2_with fail
  refine C.out.mono ?_
  rintro e w1 ⟨⟨a3, c3, g3, rfl, o3, p3, q3, r3⟩, n⟩
  have z1 := N1.out.size
  go_wp2
  go_ret
  exact ⟨⟨a3, c3, g3, rfl, o3, p3, q3, by omega⟩, nxt N1.out n⟩
set_option maxHeartbeats 1000000 in
theorem sExpand_any (w : World) (hH : HasH w) {a : Option Addr} {c : Nat} {ks : List Int} (x : Value) (s : ByteArray) (hs : s.size ≤ 1048576) (n : Int) (h1 : Lq w a c ks) :
    Calls Tryd.prog 58 #[.agg #[.slice a ks.length c, x], .string s, .int .i64 n] w fun e w' => NewRow w.heap.size w' e .u8 (labA ks s [] n) ∧ Below w.heap.size w w' := by
  have n1 := bx_up w (.slice a ks.length c) x
  obtain ⟨⟨g, r⟩, b, p, q, l⟩ := h1
  have C : Hid (Calls Tryd.prog 62 #[.slice a ks.length c, .string s, .slice none 0 0, .int .i64 n] (bx w (.slice a ks.length c) x) fun e w' => NewRow (bx w (.slice a ks.length c) x).heap.size w' e .u8 (labA ks s [] n) ∧ Below (bx w (.slice a ks.length c) x).heap.size (bx w (.slice a ks.length c) x) w') := (implLabel_any _ g a c ks (r.up n1) b q l s hs 0 none 0 [] (Rd.nil _ _ _ _) byt_nil (fun _ => rfl) (by simp) n (hH.1.up n1) (hH.2.up n1))
  have N1 := hide n1
  clear r b p q l n1 hH
  unfold bx at C N1
  generalize labA ks s [] n = ys at *
  generalize ks.length = m at *
  go_enter Tryd.func58, Tryd.ntmps58
  go_wp2_with fail
  refine C.out.mono ?_
  rintro e w1 ⟨⟨a3, c3, g3, rfl, o3, p3, q3, r3⟩, n⟩
  have z1 := N1.out.size
  go_wp2
  go_ret
  exact ⟨⟨a3, c3, g3, rfl, o3, p3, q3, by omega⟩, nxt N1.out n⟩
theorem rowSc : ∃ d, Tryd.prog.underlying 36 = some d ∧ d.isRow = true := ⟨_, Tryd.underlying36, rfl⟩
theorem iSc : (Tryd.prog.info? 36).map (·.size) = some 2 := by kernel_rfl
theorem bx_range (w : World) (x y : Value) : (bx w x y).rangeAt w.heap.size 0 [x, y] := fun j v hj => by
  have h : (bx w x y).heap[w.heap.size]? = some (.cells #[x, y] 36 (0, 0)) := by show (w.heap.push _)[w.heap.size]? = _; simp
  rw [Nat.zero_add, cell_of_row _ _ _ _ _ _ h]
  simpa using hj
set_option maxHeartbeats 1000000 in
theorem sUpdate_any (w : World) (hH : HasH w) {a : Option Addr} {c : Nat} {ks : List Int} (x : Value) (h1 : Lq w a c ks) :
    Calls Tryd.prog 40 #[.agg #[.slice a ks.length c, x]] w fun e w' => NewRow w.heap.size w' e .u8 (labA ks lbU [] 32) ∧ Below w.heap.size w w' := by
  have n1 := bx_up w (.slice a ks.length c) x
  have C := hide (sExpand_any _ (hH.up n1) x lbU (by decide) 32 (h1.up n1))
  have N1 := hide n1
  obtain ⟨d2, hd2, hrow2⟩ := rowSc
  have RG := hide (bx_range w (.slice a ks.length c) x)
  clear h1 n1 hH
  unfold bx at C N1 RG
  generalize labA ks lbU [] 32 = ys at *
  unfold lbU at C
  generalize ks.length = m at *
  go_enter Tryd.func40, Tryd.ntmps40
  go_wp2_with fail
  refine C.out.mono ?_
  rintro e w1 ⟨⟨a3, c3, g3, rfl, o3, p3, q3, r3⟩, n⟩
  have z1 := N1.out.size
  go_wp2
  go_ret
  exact ⟨⟨a3, c3, g3, rfl, o3, p3, q3, by omega⟩, nxt N1.out n⟩
set_option maxHeartbeats 1000000 in
theorem sKey_any (w : World) (hH : HasH w) {a : Option Addr} {c : Nat} {ks : List Int} (x : Value) (h1 : Lq w a c ks) :
    Calls Tryd.prog 45 #[.agg #[.slice a ks.length c, x]] w fun e w' => NewRow w.heap.size w' e .u8 (labA ks lbK [] 32) ∧ Below w.heap.size w w' := by
  have n1 := bx_up w (.slice a ks.length c) x
  have C := hide (sExpand_any _ (hH.up n1) x lbK (by decide) 32 (h1.up n1))
  have N1 := hide n1
  obtain ⟨d2, hd2, hrow2⟩ := rowSc
  have RG := hide (bx_range w (.slice a ks.length c) x)
  clear h1 n1 hH
  unfold bx at C N1 RG
  generalize labA ks lbK [] 32 = ys at *
  unfold lbK at C
  generalize ks.length = m at *
  go_enter Tryd.func45, Tryd.ntmps45
  go_wp2_with fail
  refine C.out.mono ?_
  rintro e w1 ⟨⟨a3, c3, g3, rfl, o3, p3, q3, r3⟩, n⟩
  have z1 := N1.out.size
  go_wp2
  go_ret
  exact ⟨⟨a3, c3, g3, rfl, o3, p3, q3, by omega⟩, nxt N1.out n⟩
set_option maxHeartbeats 1000000 in
theorem sIv_any (w : World) (hH : HasH w) {a : Option Addr} {c : Nat} {ks : List Int} (x : Value) (h1 : Lq w a c ks) :
    Calls Tryd.prog 46 #[.agg #[.slice a ks.length c, x]] w fun e w' => NewRow w.heap.size w' e .u8 (labA ks lbI [] 12) ∧ Below w.heap.size w w' := by
  have n1 := bx_up w (.slice a ks.length c) x
  have C := hide (sExpand_any _ (hH.up n1) x lbI (by decide) 12 (h1.up n1))
  have N1 := hide n1
  obtain ⟨d2, hd2, hrow2⟩ := rowSc
  have RG := hide (bx_range w (.slice a ks.length c) x)
  clear h1 n1 hH
  unfold bx at C N1 RG
  generalize labA ks lbI [] 12 = ys at *
  unfold lbI at C
  generalize ks.length = m at *
  go_enter Tryd.func46, Tryd.ntmps46
  go_wp2_with fail
  refine C.out.mono ?_
  rintro e w1 ⟨⟨a3, c3, g3, rfl, o3, p3, q3, r3⟩, n⟩
  have z1 := N1.out.size
  go_wp2
  go_ret
  exact ⟨⟨a3, c3, g3, rfl, o3, p3, q3, by omega⟩, nxt N1.out n⟩
end Go.Proofs.YtnfciobpfiibcaaDoor

/-
  The steps of the program's schedule that go on to a secret of a label.
-/
namespace Go.Proofs.YtnfciobpfiibcaaDoor
set_option maxRecDepth 100000
open Go Go.RowKit

/-- A schedule whose secret the call made. -/
def SC2 (w : World) (v : Value) (B : Nat) (ys : List Int) (x : Value) : Prop := ∃ (a : Option Addr) (c g : Nat), v = .agg #[.slice a ys.length c, x] ∧ Own w g a .u8 ys ∧ (a = none → c = 0) ∧ ys.length ≤ c ∧ B ≤ g
theorem SC2.up {w w' : World} {v : Value} {B : Nat} {ys : List Int} {x : Value} (h : SC2 w v B ys x) (n : Below w.heap.size w w') : SC2 w' v B ys x := by
  obtain ⟨a, c, g, e, o, q⟩ := h
  exact ⟨a, c, g, e, o.up n, q⟩
def SCh (B : Nat) (ys : List Int) (x : Value) : Fact := ⟨fun v w => SC2 w v B ys x, fun n h => h.up n⟩
theorem buSc (w : World) (a a' : Option Addr) (n n' c c' : Nat) : (Instr.build 36 #[(0, .slice a n c), (1, .slice a' n' c')]).run Tryd.prog w = .ok (.agg #[.slice a n c, .slice a' n' c']) w := by kernel_rfl
theorem step_b2 {ops : Array Oper} {Q : Exit → Act → World → Prop} {md : Region.Mode} {F : Nat → Fact} {a0 : Act} {w0 : World} {i : Nat} {o : Oper} {B : Nat} {ys : List Int} {a' : Option Addr} {n' c' : Nat} (hi : ops[i]? = some o) (p q j k : Nat) (hop : o.op = .build 36 #[(0, .tmp p), (1, .tmp q)])
    (hj : waits md ops i j p = true) (hk : waits md ops i k q = true) (hFj : F j = RNh B ys) (hFk : F k = Fact.eq (.slice a' n' c')) (hFi : F i = SCh B ys (.slice a' n' c')) : StepOk Tryd.prog md ops Q F a0 w0 i := by
  refine step_pure hi fun a w _ _ hf => ?_
  have h1 := hf j p hj
  have h2 := hf k q hk
  rw [hFj] at h1
  rw [hFk] at h2
  obtain ⟨a1, c1, g1, e7, o1, p1, q1, r1⟩ := h1
  have x1 : a.eval (.tmp p) = .slice a1 ys.length c1 := e7
  have x2 : a.eval (.tmp q) = .slice a' n' c' := h2
  refine ⟨.agg #[.slice a1 ys.length c1, .slice a' n' c'], ?_, by rw [hFi]; exact ⟨a1, c1, g1, rfl, o1, p1, q1, r1⟩⟩
  have gg : (#[(0, Operand.tmp p), (1, Operand.tmp q)].map fun (n, x) => (n, a.eval x)) = #[(0, Value.slice a1 ys.length c1), (1, .slice a' n' c')] := by simp [x1, x2]
  simp only [execOp, hop, gg]
  rw [Sem.run_bind, buSc]
  rfl
theorem one2 (a a' : Option Addr) (n n' c c' : Nat) : ([.slice a n c, .slice a' n' c'] : List Value).toArray.all (·.oneCell') = true := all_oneCell_toArray fun v hv => by
  simp only [List.mem_cons, List.not_mem_nil, or_false] at hv
  rcases hv with rfl | rfl
  all_goals rfl
theorem there2 {w : World} {q : Nat} {x y : Value} {t : TypeId} (h : w.heap[q]? = some (.cells #[x, y] t (0, 0))) : w.there q 0 2 := fun j hj => by
  rw [Nat.zero_add, cell_of_row _ _ _ _ _ _ h, frozen_of_row _ _ _ _ _ h]
  refine ⟨?_, rfl⟩
  obtain rfl | rfl : j = 0 ∨ j = 1 := by omega
  all_goals rfl
theorem range_up {W W' : World} {q : Nat} {cs : List Value} (h : W.rangeAt q 0 cs) (l : q < W.heap.size) (n : Below W.heap.size W W') : W'.rangeAt q 0 cs := fun j v hj => (World.cell?_of_block (a := ⟨q, 0 + j, none⟩) (n.block q l)).trans (h j v hj)
theorem bx_lt (w : World) (x y : Value) : w.heap.size < (bx w x y).heap.size := by simp [bx]

set_option maxHeartbeats 4000000 in
theorem sDerive_any (w : World) (hH : HasH w) {a a' : Option Addr} {c n' c' : Nat} {ks : List Int} (s : ByteArray) (hs : s.size ≤ 1048576) (h1 : Lq w a c ks) :
    Calls Tryd.prog 63 #[.agg #[.slice a ks.length c, .slice a' n' c'], .string s] w fun e w' => (∃ v, e = .returned v ∧ SC2 w' v w.heap.size (labA ks s hE 32) (.slice a' n' c')) ∧ Below w.heap.size w w' := by
  have n0 := bx_up w (.slice a ks.length c) (.slice a' n' c')
  have z0 := bx_lt w (.slice a ks.length c) (.slice a' n' c')
  have zz : (bx w (.slice a ks.length c) (.slice a' n' c')).heap.size = w.heap.size + 1 := by simp [bx]
  have R0 := bx_range w (.slice a ks.length c) (.slice a' n' c')
  obtain ⟨d3, hd3, hrow3⟩ := rowSc
  have HH := hH.up n0
  have H1 := h1.up n0
  clear hH h1
  obtain ⟨ls, hls⟩ : ∃ l, l = labA ks s hE 32 := ⟨_, rfl⟩
  have HL := hide hls
  rw [← hls]
  clear hls
  unfold bx at n0 z0 zz R0 HH H1
  go_enter Tryd.func63, Tryd.ntmps63
  go_upto_region 1 with fail
  generalize w.alloc (.cells #[.slice a ks.length c, .slice a' n' c'] 36) = wa at *
  have n1 : Below wa.heap.size wa (wa.alloc (.cells #[.slice none 0 0, .slice none 0 0] 36)) := (Below.refl _ _).alloc (Nat.le_refl _) _
  have TH : (wa.alloc (.cells #[.slice none 0 0, .slice none 0 0] 36)).there (w.heap.size + 1) 0 2 := there2 (x := .slice none 0 0) (y := .slice none 0 0) (t := 36) (by rw [← zz]; show (wa.heap.push _)[wa.heap.size]? = _; simp)
  have R1 := range_up R0 z0 n1
  have HH1 := HH.up n1
  have L1 := H1.up n1
  have N1 := nxt n0 n1
  have zb : w.heap.size + 1 < (wa.alloc (.cells #[.slice none 0 0, .slice none 0 0] 36)).heap.size := by simp; omega
  generalize wa.alloc (.cells #[.slice none 0 0, .slice none 0 0] 36) = wb at *
  clear n0 n1 R0 z0 zz HH H1
  refine region_putF 8 7 4 12 _ (fun i => [Fact.eq (.pointer (some ⟨w.heap.size, 0, none⟩)), Fact.eq (.slice a ks.length c), Fact.eq (.string s), RNh wb.heap.size hE, RNh wb.heap.size ls, Fact.eq (.pointer (some ⟨w.heap.size, 1, none⟩)), Fact.eq (.slice a' n' c'), SCh wb.heap.size ls (.slice a' n' c')].getD i Fact.no) (w.heap.size + 1) 0 36 (by kernel_rfl) (by kernel_rfl) rfl rfl rfl (by kernel_rfl) rfl (by kernel_rfl) ?_ ?_
  · intro i hi
    obtain rfl | rfl | rfl | rfl | rfl | rfl | rfl | rfl : i = 0 ∨ i = 1 ∨ i = 2 ∨ i = 3 ∨ i = 4 ∨ i = 5 ∨ i = 6 ∨ i = 7 := by omega
    · refine step_pure rfl fun A ww hb hw hf => ?_
      have e1 : A.tmps[2]?.getD undef = .pointer (some ⟨w.heap.size, 0, none⟩) := gdv (hb.2.2 2 (by kernel_rfl))
      exact ⟨.pointer (some ⟨w.heap.size, 0, none⟩), by simp [go_sem, e1], rfl⟩
    · refine step_pure rfl fun A ww hb hw hf => ?_
      have e3 : A.tmps[5]?.getD undef = .pointer (some ⟨w.heap.size, 0, none⟩) := gdv (hf 0 5 (by kernel_rfl))
      have hc : ww.cell? ⟨w.heap.size, 0, none⟩ = some (.slice a ks.length c) := range_up R1 (by omega) hw 0 _ rfl
      exact ⟨.slice a ks.length c, by simp [go_sem, e3, hc], rfl⟩
    · refine step_pure rfl fun A ww hb hw hf => ?_
      have e1 : A.tmps[1]?.getD undef = .string s := gdv (hb.2.2 1 (by kernel_rfl))
      exact ⟨.string s, by simp [go_sem, e1], rfl⟩
    · refine step_callv rfl 51 _ _ rfl (by kernel_rfl) fun A ww hb hw hf => ?_
      show Calls Tryd.prog 51 #[.slice none 0 0] ww _
      exact (implHash_32 ww 0 none 0 [] (Rd.nil _ _ _ _) byt_nil (Nat.le_refl _) (by simp) (HH1.1.up hw) (HH1.2.up hw)).mono (by rintro r w' ⟨⟨a1, c1, g1, rfl, o1, p1, q1, r1⟩, n⟩; exact ⟨_, rfl, n, a1, c1, g1, rfl, o1, p1, q1, Nat.le_trans hw.size r1⟩)
    · refine step_callv rfl 79 _ _ rfl (by kernel_rfl) fun A ww hb hw hf => ?_
      have e6 : A.tmps.getD 6 undef = .slice a ks.length c := hf 1 6 (by kernel_rfl)
      have e7 : A.tmps.getD 7 undef = .string s := hf 2 7 (by kernel_rfl)
      obtain ⟨a1, c1, g1, e8, o1, p1, q1, r1⟩ := hf 3 8 (by kernel_rfl)
      obtain ⟨⟨g, r⟩, b, p, q, l⟩ := L1.up hw
      show Calls Tryd.prog 79 #[A.tmps.getD 6 undef, A.tmps.getD 7 undef, A.tmps.getD 8 undef] ww _
      rw [e6, e7, e8]
      have D := implDerive_any ww g a c ks r b q l s hs g1 a1 c1 hE o1.rd hE_byt p1 (by rw [hE_len]; decide) (HH1.1.up hw) (HH1.2.up hw)
      rw [← HL.out] at D
      exact D.mono (by rintro r w' ⟨⟨a1, c1, g1, rfl, o1, p1, q1, r1⟩, n⟩; exact ⟨_, rfl, n, a1, c1, g1, rfl, o1, p1, q1, Nat.le_trans hw.size r1⟩)
    · refine step_pure rfl fun A ww hb hw hf => ?_
      have e1 : A.tmps[2]?.getD undef = .pointer (some ⟨w.heap.size, 0, none⟩) := gdv (hb.2.2 2 (by kernel_rfl))
      exact ⟨.pointer (some ⟨w.heap.size, 1, none⟩), by simp [go_sem, e1], rfl⟩
    · refine step_pure rfl fun A ww hb hw hf => ?_
      have e3 : A.tmps[10]?.getD undef = .pointer (some ⟨w.heap.size, 1, none⟩) := gdv (hf 5 10 (by kernel_rfl))
      have hc : ww.cell? ⟨w.heap.size, 1, none⟩ = some (.slice a' n' c') := range_up R1 (by omega) hw 1 _ rfl
      exact ⟨.slice a' n' c', by simp [go_sem, e3, hc], rfl⟩
    · exact step_b2 rfl 9 11 4 6 rfl (by kernel_rfl) (by kernel_rfl) rfl rfl rfl
  intro vs6 W v hw hv3
  have hv3 : SC2 W v wb.heap.size ls (.slice a' n' c') := hv3
  obtain ⟨a1, c1, g1, rfl, o1, p1, q1, r1⟩ := hv3
  have th := there_upn (by omega) TH hw
  refine ⟨[.slice a1 ls.length c1, .slice a' n' c'], rfl, th, iSc, one2 _ _ _ _ _ _, ?_⟩
  have RR := World.rangeAt_setCells_same W (w.heap.size + 1) 0 [.slice a1 ls.length c1, .slice a' n' c'] th
  have OQ := only_setCells W (w.heap.size + 1) [.slice a1 ls.length c1, .slice a' n' c'] 0
  have N2 : Below w.heap.size w (W.setCells (w.heap.size + 1) 0 [.slice a1 ls.length c1, .slice a' n' c']) := (nxt N1 hw).trans (OQ.below (by omega))
  have o1' := o1.only OQ (fun _ => by omega)
  generalize W.setCells (w.heap.size + 1) 0 [.slice a1 ls.length c1, .slice a' n' c'] = W2 at *
  simp only [puts, Act.put, List.setIfInBounds_toArray, List.set_cons_succ, List.set_cons_zero]
  clear o1 OQ th TH R1 N1 HH1 L1
  go_wp2
  exact bodyPost_ret (v := .agg #[.slice a1 ls.length c1, .slice a' n' c']) (results_cell_m Tryd.results63 _ _ (w.heap.size + 1) _ d3 rfl RR hd3 hrow3 iSc) rfl ⟨⟨_, rfl, a1, c1, g1, rfl, o1', p1, q1, by omega⟩, N2⟩

set_option maxHeartbeats 4000000 in
theorem sFinish_any (w : World) (hH : HasH w) {a a' : Option Addr} {c c' : Nat} {ks xs : List Int} (h1 : Lq w a c ks) (h2 : Lq w a' c' xs) :
    Calls Tryd.prog 43 #[.agg #[.slice a ks.length c, .slice a' xs.length c']] w fun e w' => NewRow w.heap.size w' e .u8 (macL (labA ks lbF [] 32) xs) ∧ Below w.heap.size w w' := by
  have n0 := bx_up w (.slice a ks.length c) (.slice a' xs.length c')
  have z0 := bx_lt w (.slice a ks.length c) (.slice a' xs.length c')
  have R1 := bx_range w (.slice a ks.length c) (.slice a' xs.length c')
  obtain ⟨d3, hd3, hrow3⟩ := rowSc
  have HH1 := hH.up n0
  have L1 := h1.up n0
  have L2 := h2.up n0
  clear hH h1 h2
  have LL := labA_len ks lbF [] 32
  have LB := labA_byt ks lbF [] 32
  obtain ⟨ls, hls⟩ : ∃ l, l = labA ks lbF [] 32 := ⟨_, rfl⟩
  rw [← hls] at LL LB
  rw [← hls]
  have HL := hide hls
  clear hls
  unfold bx at n0 z0 R1 HH1 L1 L2
  go_enter Tryd.func43, Tryd.ntmps43
  go_upto_region 1 with fail
  generalize w.alloc (.cells #[.slice a ks.length c, .slice a' xs.length c'] 36) = wb at *
  refine region_end 6 (fun i => [Fact.eq (.agg #[.slice a ks.length c, .slice a' xs.length c']), RNh wb.heap.size ls, Fact.eq (.pointer (some ⟨w.heap.size, 1, none⟩)), Fact.eq (.slice a' xs.length c'), RNh wb.heap.size (macL ls xs), RNh wb.heap.size (macL ls xs)].getD i Fact.no) (by kernel_rfl) (by kernel_rfl) rfl ?_ ?_
  · intro i hi
    obtain rfl | rfl | rfl | rfl | rfl | rfl : i = 0 ∨ i = 1 ∨ i = 2 ∨ i = 3 ∨ i = 4 ∨ i = 5 := by omega
    · refine step_load rfl 36 (.tmp 1) rfl d3 2 hd3 hrow3 iSc fun A ww hb hw hf => ⟨_, 0, [.slice a ks.length c, .slice a' xs.length c'], hb.2.2 1 (by kernel_rfl), range_up R1 z0 hw, rfl, rfl⟩
    · refine step_callv rfl 58 _ _ rfl (by kernel_rfl) fun A ww hb hw hf => ?_
      have e3 : A.tmps.getD 3 undef = .agg #[.slice a ks.length c, .slice a' xs.length c'] := hf 0 3 (by kernel_rfl)
      show Calls Tryd.prog 58 #[A.tmps.getD 3 undef, .string lbF, .int .i64 32] ww _
      rw [e3]
      have D := sExpand_any ww (HH1.up hw) (.slice a' xs.length c') lbF (by decide) 32 (L1.up hw)
      rw [← HL.out] at D
      exact D.mono (by rintro r w' ⟨⟨a1, c1, g1, rfl, o1, p1, q1, r1⟩, n⟩; exact ⟨_, rfl, n, a1, c1, g1, rfl, o1, p1, q1, Nat.le_trans hw.size r1⟩)
    · refine step_pure rfl fun A ww hb hw hf => ?_
      have e1 : A.tmps[1]?.getD undef = .pointer (some ⟨w.heap.size, 0, none⟩) := gdv (hb.2.2 1 (by kernel_rfl))
      exact ⟨.pointer (some ⟨w.heap.size, 1, none⟩), by simp [go_sem, e1], rfl⟩
    · refine step_pure rfl fun A ww hb hw hf => ?_
      have e3 : A.tmps[5]?.getD undef = .pointer (some ⟨w.heap.size, 1, none⟩) := gdv (hf 2 5 (by kernel_rfl))
      have hc : ww.cell? ⟨w.heap.size, 1, none⟩ = some (.slice a' xs.length c') := range_up R1 z0 hw 1 _ rfl
      exact ⟨.slice a' xs.length c', by simp [go_sem, e3, hc], rfl⟩
    · refine step_callv rfl 61 _ _ rfl (by kernel_rfl) fun A ww hb hw hf => ?_
      obtain ⟨a1, c1, g1, e4, o1, p1, q1, r1⟩ := hf 1 4 (by kernel_rfl)
      have e6 : A.tmps.getD 6 undef = .slice a' xs.length c' := hf 3 6 (by kernel_rfl)
      obtain ⟨⟨g, r⟩, b, p, q, l⟩ := L2.up hw
      show Calls Tryd.prog 61 #[A.tmps.getD 4 undef, A.tmps.getD 6 undef] ww _
      rw [e4, e6]
      exact (implMac_any ww g1 a1 c1 ls o1.rd LB q1 (by omega) g a' c' xs r b q (by omega) (HH1.1.up hw) (HH1.2.up hw)).mono (by rintro r w' ⟨⟨a1, c1, g1, rfl, o1, p1, q1, r1⟩, n⟩; exact ⟨_, rfl, n, a1, c1, g1, rfl, o1, p1, q1, Nat.le_trans hw.size r1⟩)
    · refine step_pure rfl fun A ww hb hw hf => ?_
      obtain ⟨a1, c1, g1, e7, o1, p1, q1, r1⟩ := hf 4 7 (by kernel_rfl)
      exact ⟨.slice a1 (macL ls xs).length c1, by simp [go_sem, gdv e7], ⟨a1, c1, g1, rfl, o1, p1, q1, r1⟩⟩
  intro A W hb hw hF
  have e2 := hF 5 2 (by kernel_rfl)
  obtain ⟨vs, hvs⟩ : ∃ vs : Nat → Value, ∀ d, A.tmps.getD d undef = vs d := ⟨_, fun _ => rfl⟩
  rw [hvs] at e2
  rw [puts_of (md := .any) (k := 6) (by kernel_rfl) rfl hb vs hvs]
  have N9 := nxt n0 hw
  clear hb hF hvs hw R1 HH1 L1 L2 HL LB LL
  obtain ⟨a1, c1, g1, e3, o1, p1, q1, r1⟩ := e2
  simp only [puts, e3, Act.put, List.setIfInBounds_toArray, List.set_cons_succ, List.set_cons_zero]
  go_wp2
  go_ret
  exact ⟨⟨a1, c1, g1, rfl, o1, p1, q1, by omega⟩, N9⟩

set_option maxHeartbeats 1000000 in
theorem sMix_any (w : World) (hH : HasH w) {a a' : Option Addr} {c c' : Nat} {ks xs : List Int} (h1 : Lq w a c ks) (h2 : Lq w a' c' xs) :
    Calls Tryd.prog 49 #[.agg #[.slice a ks.length c, .slice a' xs.length c']] w fun e w' => NewRow w.heap.size w' e .u8 (macL (labA ks lbD hE 32) xs) ∧ Below w.heap.size w w' := by
  have n1 := bx_up w (.slice a ks.length c) (.slice a' xs.length c')
  have C := hide (sDerive_any (a' := a') (n' := xs.length) (c' := c') _ (hH.up n1) lbD (by decide) (h1.up n1))
  have N1 := hide n1
  obtain ⟨d2, hd2, hrow2⟩ := rowSc
  have RG := hide (bx_range w (.slice a ks.length c) (.slice a' xs.length c'))
  have LL := labA_len ks lbD hE 32
  have LB := labA_byt ks lbD hE 32
  clear h1 n1
  unfold bx at C N1 RG
  generalize labA ks lbD hE 32 = ls at *
  have EX := fun W (n : Below w.heap.size w W) a1 c1 (h : Lq W a1 c1 ls) => hide (sExtract_any W (hH.up n) h (h2.up n))
  generalize macL ls xs = ys at *
  have LLh := hide LL
  clear LL
  unfold lbD at C
  go_enter Tryd.func49, Tryd.ntmps49
  go_wp2_with fail
  refine C.out.mono ?_
  rintro e w1 ⟨⟨v, rfl, a3, c3, g3, rfl, o3, p3, q3, r3⟩, n⟩
  have z1 := N1.out.size
  have n2 := nxt N1.out n
  have E := EX w1 n2 a3 c3 (Lq.of o3 p3 q3 LB (by have := LLh.out; omega))
  clear EX o3 p3 q3 C RG h2 hH
  go_wp2_with fail
  refine E.out.mono ?_
  rintro e w2 ⟨⟨a4, c4, g4, rfl, o4, p4, q4, r4⟩, n4⟩
  have z2 := n2.size
  go_wp2
  go_ret
  exact ⟨⟨a4, c4, g4, rfl, o4, p4, q4, by omega⟩, nxt n2 n4⟩
set_option maxHeartbeats 1000000 in
theorem sBind_any (w : World) (hH : HasH w) {a a' : Option Addr} {c c' : Nat} {ks xs : List Int} (h1 : Lq w a c ks) (h2 : Lq w a' c' xs) :
    Calls Tryd.prog 52 #[.agg #[.slice a ks.length c, .slice a' xs.length c']] w fun e w' => NewRow w.heap.size w' e .u8 (macL (labA (labA ks lbB hE 32) lbF [] 32) xs) ∧ Below w.heap.size w w' := by
  have n1 := bx_up w (.slice a ks.length c) (.slice a' xs.length c')
  have C := hide (sDerive_any (a' := a') (n' := xs.length) (c' := c') _ (hH.up n1) lbB (by decide) (h1.up n1))
  have N1 := hide n1
  obtain ⟨d2, hd2, hrow2⟩ := rowSc
  have RG := hide (bx_range w (.slice a ks.length c) (.slice a' xs.length c'))
  have LL := labA_len ks lbB hE 32
  have LB := labA_byt ks lbB hE 32
  clear h1 n1
  unfold bx at C N1 RG
  generalize labA ks lbB hE 32 = ls at *
  have EX := fun W (n : Below w.heap.size w W) a1 c1 (h : Lq W a1 c1 ls) => hide (sFinish_any W (hH.up n) h (h2.up n))
  generalize macL (labA ls lbF [] 32) xs = ys at *
  have LLh := hide LL
  clear LL
  unfold lbB at C
  go_enter Tryd.func52, Tryd.ntmps52
  go_wp2_with fail
  refine C.out.mono ?_
  rintro e w1 ⟨⟨v, rfl, a3, c3, g3, rfl, o3, p3, q3, r3⟩, n⟩
  have z1 := N1.out.size
  have n2 := nxt N1.out n
  have E := EX w1 n2 a3 c3 (Lq.of o3 p3 q3 LB (by have := LLh.out; omega))
  clear EX o3 p3 q3 C RG h2 hH
  go_wp2_with fail
  refine E.out.mono ?_
  rintro e w2 ⟨⟨a4, c4, g4, rfl, o4, p4, q4, r4⟩, n4⟩
  have z2 := n2.size
  go_wp2
  go_ret
  exact ⟨⟨a4, c4, g4, rfl, o4, p4, q4, by omega⟩, nxt n2 n4⟩
end Go.Proofs.YtnfciobpfiibcaaDoor

/-
  Lengths are asked for ahead of a step of the program's schedule; its exported functions (written by gens/ksc.py).
-/
namespace Go.Proofs.YtnfciobpfiibcaaDoor
set_option maxRecDepth 100000
open Go Go.RowKit

set_option maxHeartbeats 1000000 in
theorem isOther_any (w : World) (a : Option Addr) (n c : Nat) :
    Calls Tryd.prog 54 #[.slice a n c] w fun e w' => e = .returned (.bool (decide (n ≠ 32))) ∧ w' = w := by
  by_cases h : n = 32
  · subst h
    go_enter Tryd.func54, Tryd.ntmps54
    go_wp2
    go_ret
    exact ⟨rfl, rfl⟩
  · have t : ((n : Int) != 32) = true := by simp; omega
    have t2 : decide (n ≠ 32) = true := decide_eq_true h
    rw [t2]
    go_enter Tryd.func54, Tryd.ntmps54
    go_wp2
    go_ret
    exact ⟨rfl, rfl⟩
/-- A row of lists as values. -/
abbrev Sv := Option Addr × Nat × Nat
def sv0 : Sv := (none, 0, 0)
def Sv.v (x : Sv) : Value := .slice x.1 x.2.1 x.2.2
def RwV (w : World) (b : Nat) (vs : List Sv) : Prop := ∀ i, i < vs.length → w.cell? ⟨b, i, none⟩ = some (.slice (vs.getD i sv0).1 (vs.getD i sv0).2.1 (vs.getD i sv0).2.2)
/-- One of them has another length. -/
def oth (vs : List Sv) : Bool := vs.any fun x => decide (x.2.1 ≠ 32)
theorem oth_take {vs : List Sv} {k : Nat} (hk : k < vs.length) : oth (vs.take (k + 1)) = (oth (vs.take k) || decide ((vs.getD k sv0).2.1 ≠ 32)) := by
  have e : vs.take (k + 1) = vs.take k ++ [vs.getD k sv0] := by
    rw [List.take_succ_eq_append_getElem hk]
    congr 2
    simp [hk]
  rw [e]
  unfold oth
  rw [List.any_append]
  simp
theorem oth_of {vs : List Sv} {k : Nat} (hk : k < vs.length) (h : decide ((vs.getD k sv0).2.1 ≠ 32) = true) : oth vs = true := by
  unfold oth
  rw [List.any_eq_true]
  exact ⟨vs.getD k sv0, by simp [hk], h⟩
set_option maxHeartbeats 2000000 in
theorem idxO_any (w : World) (b : Nat) (vs : List Sv) (hr : RwV w b vs) (hn : vs.length ≤ 1048576) :
    Calls Tryd.prog 71 #[.slice (some ⟨b, 0, none⟩) vs.length vs.length, .func (.func 54) #[] #[]] w fun e w' => (∃ r : Int, e = .returned (.int .i64 r) ∧ decide (0 ≤ r) = oth vs) ∧ w' = w := by
  go_enter Tryd.func71, Tryd.ntmps71
  go_wp2
  go_loopw [8] (fun i wr => wr = w ∧ ∃ k : Nat, k ≤ vs.length ∧ i = .int .i64 k ∧ Hid (oth (vs.take k) = false)) (fun i _ => vs.length - (intOf i).toNat)
  case atStart => exact ⟨rfl, 0, by omega, rfl, by show _ = _; rw [List.take_zero]; rfl⟩
  case round =>
    obtain ⟨rfl, k, hk, rfl, hA⟩ := hrel
    by_cases hlt : k < vs.length
    · have t2 : (k : Int) < (vs.length : Int) := by omega
      have c1 := hr k hlt
      have CC := hide (isOther_any wr (vs.getD k sv0).1 (vs.getD k sv0).2.1 (vs.getD k sv0).2.2)
      have AT := hide (oth_take hlt)
      have AO := hide (fun h => oth_of hlt h)
      rw [hA.out] at AT
      clear hA
      generalize (vs.getD k sv0).1 = x1 at *
      generalize (vs.getD k sv0).2.1 = x2 at *
      generalize (vs.getD k sv0).2.2 = x3 at *
      generalize decide (x2 ≠ 32) = z at *
      cases z with
      | false =>
        clear AO
        go_wp2_with fail
        refine CC.out.mono ?_
        rintro e w1 ⟨rfl, rfl⟩
        go_wp2
        go_roundw
        case rel => exact ⟨by first | rfl | trivial, k + 1, by omega, by go_num, by show _ = _; rw [AT.out]; rfl⟩
        case measure => simp [intOf]; omega
      | true =>
        have AO' := hide (AO.out rfl)
        clear AO AT
        go_wp2_with fail
        refine CC.out.mono ?_
        rintro e w1 ⟨rfl, rfl⟩
        go_wp2
        go_ret
        exact ⟨⟨_, rfl, by rw [AO'.out]; exact decide_eq_true (by omega)⟩, rfl⟩
    · obtain rfl : k = vs.length := by omega
      rw [List.take_length] at hA
      go_wp2
      go_ret
      exact ⟨⟨_, rfl, by rw [hA.out]; rfl⟩, rfl⟩
set_option maxHeartbeats 2000000 in
theorem conO_any (w : World) (b : Nat) (vs : List Sv) (hr : RwV w b vs) (hn : vs.length ≤ 1048576) :
    Calls Tryd.prog 53 #[.slice (some ⟨b, 0, none⟩) vs.length vs.length, .func (.func 54) #[] #[]] w fun e w' => e = .returned (.bool (oth vs)) ∧ w' = w := by
  have IX := hide (idxO_any w b vs hr hn)
  generalize oth vs = z at *
  go_enter Tryd.func53, Tryd.ntmps53
  go_wp2_with fail
  refine IX.out.mono ?_
  rintro e w1 ⟨⟨r, rfl, hrz⟩, rfl⟩
  have HZ := hide hrz
  clear hrz
  go_wp2
  go_ret
  exact ⟨by rw [← HZ.out]; rfl, rfl⟩
set_option maxHeartbeats 1000000 in
theorem takeExtract_any (w : World) (b : Nat) (vs : List Sv) (hr : RwV w b vs) (hn : vs.length ≤ 1048576) (x : Value) (ys : List Int) (C : oth vs = false → Calls Tryd.prog 38 #[x] w fun e w' => NewRow w.heap.size w' e .u8 ys ∧ Below w.heap.size w w') :
    Calls Tryd.prog 36 #[.func (.func 38) #[x] #[], .slice (some ⟨b, 0, none⟩) vs.length vs.length] w fun e w' => NewRow w.heap.size w' e .u8 (if oth vs = true then [] else ys) ∧ Below w.heap.size w w' := by
  have CO := hide (conO_any w b vs hr hn)
  have CH := hide C
  clear hr C
  cases hz : oth vs with
  | true =>
    rw [hz] at CO
    clear CH hz
    rw [if_pos rfl]
    go_enter Tryd.func36, Tryd.ntmps36
    go_wp2_with fail
    refine CO.out.mono ?_
    rintro e w1 ⟨rfl, rfl⟩
    go_wp2
    go_ret
    exact ⟨newRow_z _ _, Below.refl _ _⟩
  | false =>
    rw [hz] at CO
    have CH := hide (CH.out hz)
    clear hz
    rw [if_neg (by decide)]
    go_enter Tryd.func36, Tryd.ntmps36
    go_wp2_with fail
    refine CO.out.mono ?_
    rintro e w1 ⟨rfl, rfl⟩
    go_wp2_with fail
    refine CH.out.mono ?_
    rintro e w2 ⟨⟨a3, c3, g3, rfl, o3, p3, q3, r3⟩, n⟩
    go_wp2
    go_ret
    exact ⟨⟨a3, c3, g3, rfl, o3, p3, q3, r3⟩, n⟩
set_option maxHeartbeats 1000000 in
theorem takeMix_any (w : World) (b : Nat) (vs : List Sv) (hr : RwV w b vs) (hn : vs.length ≤ 1048576) (x : Value) (ys : List Int) (C : oth vs = false → Calls Tryd.prog 49 #[x] w fun e w' => NewRow w.heap.size w' e .u8 ys ∧ Below w.heap.size w w') :
    Calls Tryd.prog 36 #[.func (.func 49) #[x] #[], .slice (some ⟨b, 0, none⟩) vs.length vs.length] w fun e w' => NewRow w.heap.size w' e .u8 (if oth vs = true then [] else ys) ∧ Below w.heap.size w w' := by
  have CO := hide (conO_any w b vs hr hn)
  have CH := hide C
  clear hr C
  cases hz : oth vs with
  | true =>
    rw [hz] at CO
    clear CH hz
    rw [if_pos rfl]
    go_enter Tryd.func36, Tryd.ntmps36
    go_wp2_with fail
    refine CO.out.mono ?_
    rintro e w1 ⟨rfl, rfl⟩
    go_wp2
    go_ret
    exact ⟨newRow_z _ _, Below.refl _ _⟩
  | false =>
    rw [hz] at CO
    have CH := hide (CH.out hz)
    clear hz
    rw [if_neg (by decide)]
    go_enter Tryd.func36, Tryd.ntmps36
    go_wp2_with fail
    refine CO.out.mono ?_
    rintro e w1 ⟨rfl, rfl⟩
    go_wp2_with fail
    refine CH.out.mono ?_
    rintro e w2 ⟨⟨a3, c3, g3, rfl, o3, p3, q3, r3⟩, n⟩
    go_wp2
    go_ret
    exact ⟨⟨a3, c3, g3, rfl, o3, p3, q3, r3⟩, n⟩
set_option maxHeartbeats 1000000 in
theorem takeFinish_any (w : World) (b : Nat) (vs : List Sv) (hr : RwV w b vs) (hn : vs.length ≤ 1048576) (x : Value) (ys : List Int) (C : oth vs = false → Calls Tryd.prog 43 #[x] w fun e w' => NewRow w.heap.size w' e .u8 ys ∧ Below w.heap.size w w') :
    Calls Tryd.prog 36 #[.func (.func 43) #[x] #[], .slice (some ⟨b, 0, none⟩) vs.length vs.length] w fun e w' => NewRow w.heap.size w' e .u8 (if oth vs = true then [] else ys) ∧ Below w.heap.size w w' := by
  have CO := hide (conO_any w b vs hr hn)
  have CH := hide C
  clear hr C
  cases hz : oth vs with
  | true =>
    rw [hz] at CO
    clear CH hz
    rw [if_pos rfl]
    go_enter Tryd.func36, Tryd.ntmps36
    go_wp2_with fail
    refine CO.out.mono ?_
    rintro e w1 ⟨rfl, rfl⟩
    go_wp2
    go_ret
    exact ⟨newRow_z _ _, Below.refl _ _⟩
  | false =>
    rw [hz] at CO
    have CH := hide (CH.out hz)
    clear hz
    rw [if_neg (by decide)]
    go_enter Tryd.func36, Tryd.ntmps36
    go_wp2_with fail
    refine CO.out.mono ?_
    rintro e w1 ⟨rfl, rfl⟩
    go_wp2_with fail
    refine CH.out.mono ?_
    rintro e w2 ⟨⟨a3, c3, g3, rfl, o3, p3, q3, r3⟩, n⟩
    go_wp2
    go_ret
    exact ⟨⟨a3, c3, g3, rfl, o3, p3, q3, r3⟩, n⟩
set_option maxHeartbeats 1000000 in
theorem takeTicket_any (w : World) (b : Nat) (vs : List Sv) (hr : RwV w b vs) (hn : vs.length ≤ 1048576) (x : Value) (ys : List Int) (C : oth vs = false → Calls Tryd.prog 44 #[x] w fun e w' => NewRow w.heap.size w' e .u8 ys ∧ Below w.heap.size w w') :
    Calls Tryd.prog 36 #[.func (.func 44) #[x] #[], .slice (some ⟨b, 0, none⟩) vs.length vs.length] w fun e w' => NewRow w.heap.size w' e .u8 (if oth vs = true then [] else ys) ∧ Below w.heap.size w w' := by
  have CO := hide (conO_any w b vs hr hn)
  have CH := hide C
  clear hr C
  cases hz : oth vs with
  | true =>
    rw [hz] at CO
    clear CH hz
    rw [if_pos rfl]
    go_enter Tryd.func36, Tryd.ntmps36
    go_wp2_with fail
    refine CO.out.mono ?_
    rintro e w1 ⟨rfl, rfl⟩
    go_wp2
    go_ret
    exact ⟨newRow_z _ _, Below.refl _ _⟩
  | false =>
    rw [hz] at CO
    have CH := hide (CH.out hz)
    clear hz
    rw [if_neg (by decide)]
    go_enter Tryd.func36, Tryd.ntmps36
    go_wp2_with fail
    refine CO.out.mono ?_
    rintro e w1 ⟨rfl, rfl⟩
    go_wp2_with fail
    refine CH.out.mono ?_
    rintro e w2 ⟨⟨a3, c3, g3, rfl, o3, p3, q3, r3⟩, n⟩
    go_wp2
    go_ret
    exact ⟨⟨a3, c3, g3, rfl, o3, p3, q3, r3⟩, n⟩
set_option maxHeartbeats 1000000 in
theorem takeUpdate_any (w : World) (b : Nat) (vs : List Sv) (hr : RwV w b vs) (hn : vs.length ≤ 1048576) (x : Value) (ys : List Int) (C : oth vs = false → Calls Tryd.prog 40 #[x] w fun e w' => NewRow w.heap.size w' e .u8 ys ∧ Below w.heap.size w w') :
    Calls Tryd.prog 36 #[.func (.func 40) #[x] #[], .slice (some ⟨b, 0, none⟩) vs.length vs.length] w fun e w' => NewRow w.heap.size w' e .u8 (if oth vs = true then [] else ys) ∧ Below w.heap.size w w' := by
  have CO := hide (conO_any w b vs hr hn)
  have CH := hide C
  clear hr C
  cases hz : oth vs with
  | true =>
    rw [hz] at CO
    clear CH hz
    rw [if_pos rfl]
    go_enter Tryd.func36, Tryd.ntmps36
    go_wp2_with fail
    refine CO.out.mono ?_
    rintro e w1 ⟨rfl, rfl⟩
    go_wp2
    go_ret
    exact ⟨newRow_z _ _, Below.refl _ _⟩
  | false =>
    rw [hz] at CO
    have CH := hide (CH.out hz)
    clear hz
    rw [if_neg (by decide)]
    go_enter Tryd.func36, Tryd.ntmps36
    go_wp2_with fail
    refine CO.out.mono ?_
    rintro e w1 ⟨rfl, rfl⟩
    go_wp2_with fail
    refine CH.out.mono ?_
    rintro e w2 ⟨⟨a3, c3, g3, rfl, o3, p3, q3, r3⟩, n⟩
    go_wp2
    go_ret
    exact ⟨⟨a3, c3, g3, rfl, o3, p3, q3, r3⟩, n⟩
set_option maxHeartbeats 1000000 in
theorem takeBind_any (w : World) (b : Nat) (vs : List Sv) (hr : RwV w b vs) (hn : vs.length ≤ 1048576) (x : Value) (ys : List Int) (C : oth vs = false → Calls Tryd.prog 52 #[x] w fun e w' => NewRow w.heap.size w' e .u8 ys ∧ Below w.heap.size w w') :
    Calls Tryd.prog 36 #[.func (.func 52) #[x] #[], .slice (some ⟨b, 0, none⟩) vs.length vs.length] w fun e w' => NewRow w.heap.size w' e .u8 (if oth vs = true then [] else ys) ∧ Below w.heap.size w w' := by
  have CO := hide (conO_any w b vs hr hn)
  have CH := hide C
  clear hr C
  cases hz : oth vs with
  | true =>
    rw [hz] at CO
    clear CH hz
    rw [if_pos rfl]
    go_enter Tryd.func36, Tryd.ntmps36
    go_wp2_with fail
    refine CO.out.mono ?_
    rintro e w1 ⟨rfl, rfl⟩
    go_wp2
    go_ret
    exact ⟨newRow_z _ _, Below.refl _ _⟩
  | false =>
    rw [hz] at CO
    have CH := hide (CH.out hz)
    clear hz
    rw [if_neg (by decide)]
    go_enter Tryd.func36, Tryd.ntmps36
    go_wp2_with fail
    refine CO.out.mono ?_
    rintro e w1 ⟨rfl, rfl⟩
    go_wp2_with fail
    refine CH.out.mono ?_
    rintro e w2 ⟨⟨a3, c3, g3, rfl, o3, p3, q3, r3⟩, n⟩
    go_wp2
    go_ret
    exact ⟨⟨a3, c3, g3, rfl, o3, p3, q3, r3⟩, n⟩
set_option maxHeartbeats 1000000 in
theorem takeKey_any (w : World) (b : Nat) (vs : List Sv) (hr : RwV w b vs) (hn : vs.length ≤ 1048576) (x : Value) (ys : List Int) (C : oth vs = false → Calls Tryd.prog 45 #[x] w fun e w' => NewRow w.heap.size w' e .u8 ys ∧ Below w.heap.size w w') :
    Calls Tryd.prog 36 #[.func (.func 45) #[x] #[], .slice (some ⟨b, 0, none⟩) vs.length vs.length] w fun e w' => NewRow w.heap.size w' e .u8 (if oth vs = true then [] else ys) ∧ Below w.heap.size w w' := by
  have CO := hide (conO_any w b vs hr hn)
  have CH := hide C
  clear hr C
  cases hz : oth vs with
  | true =>
    rw [hz] at CO
    clear CH hz
    rw [if_pos rfl]
    go_enter Tryd.func36, Tryd.ntmps36
    go_wp2_with fail
    refine CO.out.mono ?_
    rintro e w1 ⟨rfl, rfl⟩
    go_wp2
    go_ret
    exact ⟨newRow_z _ _, Below.refl _ _⟩
  | false =>
    rw [hz] at CO
    have CH := hide (CH.out hz)
    clear hz
    rw [if_neg (by decide)]
    go_enter Tryd.func36, Tryd.ntmps36
    go_wp2_with fail
    refine CO.out.mono ?_
    rintro e w1 ⟨rfl, rfl⟩
    go_wp2_with fail
    refine CH.out.mono ?_
    rintro e w2 ⟨⟨a3, c3, g3, rfl, o3, p3, q3, r3⟩, n⟩
    go_wp2
    go_ret
    exact ⟨⟨a3, c3, g3, rfl, o3, p3, q3, r3⟩, n⟩
set_option maxHeartbeats 1000000 in
theorem takeIv_any (w : World) (b : Nat) (vs : List Sv) (hr : RwV w b vs) (hn : vs.length ≤ 1048576) (x : Value) (ys : List Int) (C : oth vs = false → Calls Tryd.prog 46 #[x] w fun e w' => NewRow w.heap.size w' e .u8 ys ∧ Below w.heap.size w w') :
    Calls Tryd.prog 36 #[.func (.func 46) #[x] #[], .slice (some ⟨b, 0, none⟩) vs.length vs.length] w fun e w' => NewRow w.heap.size w' e .u8 (if oth vs = true then [] else ys) ∧ Below w.heap.size w w' := by
  have CO := hide (conO_any w b vs hr hn)
  have CH := hide C
  clear hr C
  cases hz : oth vs with
  | true =>
    rw [hz] at CO
    clear CH hz
    rw [if_pos rfl]
    go_enter Tryd.func36, Tryd.ntmps36
    go_wp2_with fail
    refine CO.out.mono ?_
    rintro e w1 ⟨rfl, rfl⟩
    go_wp2
    go_ret
    exact ⟨newRow_z _ _, Below.refl _ _⟩
  | false =>
    rw [hz] at CO
    have CH := hide (CH.out hz)
    clear hz
    rw [if_neg (by decide)]
    go_enter Tryd.func36, Tryd.ntmps36
    go_wp2_with fail
    refine CO.out.mono ?_
    rintro e w1 ⟨rfl, rfl⟩
    go_wp2_with fail
    refine CH.out.mono ?_
    rintro e w2 ⟨⟨a3, c3, g3, rfl, o3, p3, q3, r3⟩, n⟩
    go_wp2
    go_ret
    exact ⟨⟨a3, c3, g3, rfl, o3, p3, q3, r3⟩, n⟩
def zer32 : List Int := List.replicate 32 0
theorem zer32_len : zer32.length = 32 := by simp [zer32]
theorem zer32_byt : Byt zer32 := fun i => by
  unfold zer32
  rw [List.getD_eq_getElem?_getD, List.getElem?_replicate]
  split <;> simp
set_option maxHeartbeats 1000000 in
theorem noSecret_any (w : World) :
    Calls Tryd.prog 37 #[] w fun e w' => NewRow w.heap.size w' e .u8 zer32 ∧ Below w.heap.size w w' := by
  obtain ⟨i0, hi, hz0, hz1, hz2⟩ := info_parts Tryd.info5
  go_enter Tryd.func37, Tryd.ntmps37
  go_wp2_with (at_make; refine wpList_make_full _ rfl _ _ 22 rfl w.heap.size 5 i0 (.int .u8 0) 1 Tryd.underlying22 hi hz0 hz1 .i64 .i64 _ _ 32 rfl rfl rfl rfl (by rw [hz2]; decide) (by unfold maxLen; decide) (Nat.le_refl _) ?_; intro w5 hown hgrow)
  have hB0 := Blk.of_made hown
  have hN0 : Below w.heap.size w w5 := (Below.refl _ _).grown hgrow (Nat.le_refl _) (by simp)
  clear hown hgrow
  go_wp2
  go_ret
  exact ⟨⟨_, _, _, rfl, hB0.own0, fun h => by simp at h, by rw [zer32_len]; exact Nat.le_refl _, Nat.le_refl _⟩, hN0⟩
/-- What an empty psk stands for. -/
def knL (ks : List Int) : List Int := if ks.length = 0 then zer32 else ks
set_option maxHeartbeats 1000000 in
theorem knownKey_any (w : World) {a : Option Addr} {c : Nat} {ks : List Int} (h1 : Lq w a c ks) :
    Calls Tryd.prog 35 #[.slice a ks.length c] w fun e w' => (∃ a' c', e = .returned (.slice a' (knL ks).length c') ∧ Lq w' a' c' (knL ks)) ∧ Below w.heap.size w w' := by
  have NS := hide (noSecret_any w)
  by_cases h : ks.length = 0
  · have e : knL ks = zer32 := by unfold knL; rw [if_pos h]
    rw [e]
    have t : ((ks.length : Int) == 0) = true := by rw [h]; rfl
    clear h
    go_enter Tryd.func35, Tryd.ntmps35
    go_wp2_with fail
    refine NS.out.mono ?_
    rintro e w2 ⟨⟨a3, c3, g3, rfl, o3, p3, q3, r3⟩, n⟩
    go_wp2
    go_ret
    exact ⟨⟨a3, c3, rfl, Lq.of o3 p3 q3 zer32_byt (by rw [zer32_len]; decide)⟩, n⟩
  · have e : knL ks = ks := by unfold knL; rw [if_neg h]
    rw [e]
    have t : ((ks.length : Int) == 0) = false := beq_eq_false_iff_ne.2 (by omega)
    have L := hide h1
    clear h NS h1
    go_enter Tryd.func35, Tryd.ntmps35
    go_wp2
    go_ret
    exact ⟨⟨a, c, rfl, L.out⟩, Below.refl _ _⟩
theorem rw1 (w : World) (x : Sv) : RwV (w.alloc (.cells #[.slice x.1 x.2.1 x.2.2] 22)) w.heap.size [x] := fun i hi => by
  have h : (w.alloc (.cells #[.slice x.1 x.2.1 x.2.2] 22)).heap[w.heap.size]? = some (.cells #[.slice x.1 x.2.1 x.2.2] 22 (0, 0)) := by show (w.heap.push _)[w.heap.size]? = _; simp
  rw [cell_of_row _ _ _ _ _ _ h]
  obtain rfl : i = 0 := by simp at hi; omega
  rfl
theorem rw2 (w : World) (x y : Sv) : RwV (w.alloc (.cells #[.slice x.1 x.2.1 x.2.2, .slice y.1 y.2.1 y.2.2] 22)) w.heap.size [x, y] := fun i hi => by
  have h : (w.alloc (.cells #[.slice x.1 x.2.1 x.2.2, .slice y.1 y.2.1 y.2.2] 22)).heap[w.heap.size]? = some (.cells #[.slice x.1 x.2.1 x.2.2, .slice y.1 y.2.1 y.2.2] 22 (0, 0)) := by show (w.heap.push _)[w.heap.size]? = _; simp
  rw [cell_of_row _ _ _ _ _ _ h]
  obtain rfl | rfl : i = 0 ∨ i = 1 := by simp at hi; omega
  all_goals rfl
def al1 (w : World) (x : Value) : World := w.alloc (.cells #[x] 22)
def al2 (w : World) (x y : Value) : World := w.alloc (.cells #[x, y] 22)
theorem al1_up (w : World) (x : Value) : Below w.heap.size w (al1 w x) := (Below.refl _ _).alloc (Nat.le_refl _) _
theorem al2_up (w : World) (x y : Value) : Below w.heap.size w (al2 w x y) := (Below.refl _ _).alloc (Nat.le_refl _) _
theorem oth1 (a : Option Addr) (n c : Nat) (ys : List Int) : (if oth [(a, n, c)] = true then [] else ys) = if n = 32 then ys else [] := by
  unfold oth
  by_cases h : n = 32 <;> simp [h]
theorem oth2 (a a' : Option Addr) (n n' c c' : Nat) (ys : List Int) : (if oth [(a, n, c), (a', n', c')] = true then [] else ys) = if n = 32 ∧ n' = 32 then ys else [] := by
  unfold oth
  by_cases h : n = 32 <;> by_cases h' : n' = 32 <;> simp [h, h']
def eaA (p : List Int) : List Int := if (knL p).length = 32 then macL zer32 (knL p) else []
def hsA (ks xs : List Int) : List Int := if ks.length = 32 ∧ xs.length = 32 then macL (labA ks lbD hE 32) xs else []
def msA (ks : List Int) : List Int := if ks.length = 32 then macL (labA ks lbD hE 32) zer32 else []
def nxA (ks : List Int) : List Int := if ks.length = 32 then labA ks lbU [] 32 else []
def fmA (ks xs : List Int) : List Int := if ks.length = 32 ∧ xs.length = 32 then macL (labA ks lbF [] 32) xs else []
def tkA (ks xs : List Int) : List Int := if ks.length = 32 ∧ xs.length = 32 then labA ks lbT xs 32 else []
def bmA (p xs : List Int) : List Int := if (eaA p).length = 32 then macL (labA (labA (eaA p) lbB hE 32) lbF [] 32) (hashL32 xs) else []
set_option maxHeartbeats 1000000 in
theorem implHandshakeSecret_any (w : World) (hH : HasH w) {a a' : Option Addr} {c c' : Nat} {ks xs : List Int} (h1 : Lq w a c ks) (h2 : Lq w a' c' xs) :
    Calls Tryd.prog 31 #[.slice a ks.length c, .slice a' xs.length c'] w fun e w' => NewRow w.heap.size w' e .u8 (hsA ks xs) ∧ Below w.heap.size w w' := by
  have n1 := al2_up w (.slice a ks.length c) (.slice a' xs.length c')
  have T := takeMix_any _ w.heap.size [(a, ks.length, c), (a', xs.length, c')] (rw2 w (a, ks.length, c) (a', xs.length, c')) (by simp) (.agg #[.slice a ks.length c, .slice a' xs.length c']) (macL (labA ks lbD hE 32) xs) (fun _ => sMix_any _ (hH.up n1) (h1.up n1) (h2.up n1))
  rw [oth2, show (if ks.length = 32 ∧ xs.length = 32 then macL (labA ks lbD hE 32) xs else []) = hsA ks xs from rfl] at T
  have TH : Hid (Calls Tryd.prog 36 #[.func (.func 49) #[.agg #[.slice a ks.length c, .slice a' xs.length c']] #[], .slice (some ⟨w.heap.size, 0, none⟩) 2 2] (al2 w (.slice a ks.length c) (.slice a' xs.length c')) fun e w' => NewRow (al2 w (.slice a ks.length c) (.slice a' xs.length c')).heap.size w' e .u8 (hsA ks xs) ∧ Below (al2 w (.slice a ks.length c) (.slice a' xs.length c')).heap.size (al2 w (.slice a ks.length c) (.slice a' xs.length c')) w') := T
  have N1 := hide n1
  clear T h1 h2 n1 hH
  unfold al2 at TH N1
  generalize hsA ks xs = ys at *
  generalize ks.length = m at *
  generalize xs.length = m' at *
  go_enter Tryd.func31, Tryd.ntmps31
  go_wp2_with fail
  refine TH.out.mono ?_
  rintro e w1 ⟨⟨a3, c3, g3, rfl, o3, p3, q3, r3⟩, n⟩
  have z1 := N1.out.size
  go_wp2
  go_ret
  exact ⟨⟨a3, c3, g3, rfl, o3, p3, q3, by omega⟩, nxt N1.out n⟩
set_option maxHeartbeats 1000000 in
theorem implFinishedMac_any (w : World) (hH : HasH w) {a a' : Option Addr} {c c' : Nat} {ks xs : List Int} (h1 : Lq w a c ks) (h2 : Lq w a' c' xs) :
    Calls Tryd.prog 20 #[.slice a ks.length c, .slice a' xs.length c'] w fun e w' => NewRow w.heap.size w' e .u8 (fmA ks xs) ∧ Below w.heap.size w w' := by
  have n1 := al2_up w (.slice a ks.length c) (.slice a' xs.length c')
  have T := takeFinish_any _ w.heap.size [(a, ks.length, c), (a', xs.length, c')] (rw2 w (a, ks.length, c) (a', xs.length, c')) (by simp) (.agg #[.slice a ks.length c, .slice a' xs.length c']) (macL (labA ks lbF [] 32) xs) (fun _ => sFinish_any _ (hH.up n1) (h1.up n1) (h2.up n1))
  rw [oth2, show (if ks.length = 32 ∧ xs.length = 32 then macL (labA ks lbF [] 32) xs else []) = fmA ks xs from rfl] at T
  have TH : Hid (Calls Tryd.prog 36 #[.func (.func 43) #[.agg #[.slice a ks.length c, .slice a' xs.length c']] #[], .slice (some ⟨w.heap.size, 0, none⟩) 2 2] (al2 w (.slice a ks.length c) (.slice a' xs.length c')) fun e w' => NewRow (al2 w (.slice a ks.length c) (.slice a' xs.length c')).heap.size w' e .u8 (fmA ks xs) ∧ Below (al2 w (.slice a ks.length c) (.slice a' xs.length c')).heap.size (al2 w (.slice a ks.length c) (.slice a' xs.length c')) w') := T
  have N1 := hide n1
  clear T h1 h2 n1 hH
  unfold al2 at TH N1
  generalize fmA ks xs = ys at *
  generalize ks.length = m at *
  generalize xs.length = m' at *
  go_enter Tryd.func20, Tryd.ntmps20
  go_wp2_with fail
  refine TH.out.mono ?_
  rintro e w1 ⟨⟨a3, c3, g3, rfl, o3, p3, q3, r3⟩, n⟩
  have z1 := N1.out.size
  go_wp2
  go_ret
  exact ⟨⟨a3, c3, g3, rfl, o3, p3, q3, by omega⟩, nxt N1.out n⟩
set_option maxHeartbeats 1000000 in
theorem implTicketSecret_any (w : World) (hH : HasH w) {a a' : Option Addr} {c c' : Nat} {ks xs : List Int} (h1 : Lq w a c ks) (h2 : Lq w a' c' xs) :
    Calls Tryd.prog 22 #[.slice a ks.length c, .slice a' xs.length c'] w fun e w' => NewRow w.heap.size w' e .u8 (tkA ks xs) ∧ Below w.heap.size w w' := by
  have n1 := al2_up w (.slice a ks.length c) (.slice a' xs.length c')
  have T := takeTicket_any _ w.heap.size [(a, ks.length, c), (a', xs.length, c')] (rw2 w (a, ks.length, c) (a', xs.length, c')) (by simp) (.agg #[.slice a ks.length c, .slice a' xs.length c']) (labA ks lbT xs 32) (fun _ => sTicket_any _ (hH.up n1) (h1.up n1) (h2.up n1))
  rw [oth2, show (if ks.length = 32 ∧ xs.length = 32 then labA ks lbT xs 32 else []) = tkA ks xs from rfl] at T
  have TH : Hid (Calls Tryd.prog 36 #[.func (.func 44) #[.agg #[.slice a ks.length c, .slice a' xs.length c']] #[], .slice (some ⟨w.heap.size, 0, none⟩) 2 2] (al2 w (.slice a ks.length c) (.slice a' xs.length c')) fun e w' => NewRow (al2 w (.slice a ks.length c) (.slice a' xs.length c')).heap.size w' e .u8 (tkA ks xs) ∧ Below (al2 w (.slice a ks.length c) (.slice a' xs.length c')).heap.size (al2 w (.slice a ks.length c) (.slice a' xs.length c')) w') := T
  have N1 := hide n1
  clear T h1 h2 n1 hH
  unfold al2 at TH N1
  generalize tkA ks xs = ys at *
  generalize ks.length = m at *
  generalize xs.length = m' at *
  go_enter Tryd.func22, Tryd.ntmps22
  go_wp2_with fail
  refine TH.out.mono ?_
  rintro e w1 ⟨⟨a3, c3, g3, rfl, o3, p3, q3, r3⟩, n⟩
  have z1 := N1.out.size
  go_wp2
  go_ret
  exact ⟨⟨a3, c3, g3, rfl, o3, p3, q3, by omega⟩, nxt N1.out n⟩
set_option maxHeartbeats 1000000 in
theorem implNextSecret_any (w : World) (hH : HasH w) {a : Option Addr} {c : Nat} {ks : List Int} (h1 : Lq w a c ks) :
    Calls Tryd.prog 18 #[.slice a ks.length c] w fun e w' => NewRow w.heap.size w' e .u8 (nxA ks) ∧ Below w.heap.size w w' := by
  have n1 := al1_up w (.slice a ks.length c)
  have T := takeUpdate_any _ w.heap.size [(a, ks.length, c)] (rw1 w (a, ks.length, c)) (by simp) (.agg #[.slice a ks.length c, .slice none 0 0]) (labA ks lbU [] 32) (fun _ => sUpdate_any _ (hH.up n1) (.slice none 0 0) (h1.up n1))
  rw [oth1, show (if ks.length = 32 then labA ks lbU [] 32 else []) = nxA ks from rfl] at T
  have TH : Hid (Calls Tryd.prog 36 #[.func (.func 40) #[.agg #[.slice a ks.length c, .slice none 0 0]] #[], .slice (some ⟨w.heap.size, 0, none⟩) 1 1] (al1 w (.slice a ks.length c)) fun e w' => NewRow (al1 w (.slice a ks.length c)).heap.size w' e .u8 (nxA ks) ∧ Below (al1 w (.slice a ks.length c)).heap.size (al1 w (.slice a ks.length c)) w') := T
  have N1 := hide n1
  clear T h1 n1 hH
  unfold al1 at TH N1
  generalize nxA ks = ys at *
  generalize ks.length = m at *
  go_enter Tryd.func18, Tryd.ntmps18
  go_wp2_with fail
  refine TH.out.mono ?_
  rintro e w1 ⟨⟨a3, c3, g3, rfl, o3, p3, q3, r3⟩, n⟩
  have z1 := N1.out.size
  go_wp2
  go_ret
  exact ⟨⟨a3, c3, g3, rfl, o3, p3, q3, by omega⟩, nxt N1.out n⟩
set_option maxHeartbeats 1000000 in
theorem implMasterSecret_any (w : World) (hH : HasH w) {a : Option Addr} {c : Nat} {ks : List Int} (h1 : Lq w a c ks) :
    Calls Tryd.prog 29 #[.slice a ks.length c] w fun e w' => NewRow w.heap.size w' e .u8 (msA ks) ∧ Below w.heap.size w w' := by
  have NS := hide (noSecret_any w)
  have TA : ∀ w1 (n0 : Below w.heap.size w w1) a2 c2 (h2 : Lq w1 a2 c2 zer32), Hid (Calls Tryd.prog 36 #[.func (.func 49) #[.agg #[.slice a ks.length c, .slice a2 zer32.length c2]] #[], .slice (some ⟨w1.heap.size, 0, none⟩) 1 1] (w1.alloc (.cells #[.slice a ks.length c] 22)) fun e w' => NewRow w.heap.size w' e .u8 (msA ks) ∧ Below w.heap.size w w') := by
    intro w1 n0 a2 c2 h2
    show Calls _ _ _ _ _
    have n1 := al1_up w1 (.slice a ks.length c)
    have T := takeMix_any _ w1.heap.size [(a, ks.length, c)] (rw1 w1 (a, ks.length, c)) (by simp) (.agg #[.slice a ks.length c, .slice a2 zer32.length c2]) (macL (labA ks lbD hE 32) zer32) (fun _ => sMix_any _ (hH.up (nxt n0 n1)) (h1.up (nxt n0 n1)) (h2.up n1))
    rw [oth1, show (if ks.length = 32 then macL (labA ks lbD hE 32) zer32 else []) = msA ks from rfl] at T
    refine T.mono ?_
    rintro e w2 ⟨r, n2⟩
    have z0 := n0.size
    have z1 := n1.size
    exact ⟨r.low (Nat.le_trans z0 z1), nxt (nxt n0 n1) n2⟩
  clear h1 hH
  generalize msA ks = ys at *
  generalize ks.length = m at *
  rw [zer32_len] at TA
  have ZL := hide zer32_len
  go_enter Tryd.func29, Tryd.ntmps29
  go_wp2_with fail
  refine NS.out.mono ?_
  rintro e w1 ⟨⟨a3, c3, g3, rfl, o3, p3, q3, r3⟩, n⟩
  have T := TA w1 n a3 c3 (Lq.of o3 p3 q3 zer32_byt (by rw [zer32_len]; decide))
  rw [← ZL.out] at T
  clear TA o3 p3 q3 NS
  generalize zer32.length = m2 at *
  go_wp2_with fail
  refine T.out.mono ?_
  rintro e w2 ⟨⟨a4, c4, g4, rfl, o4, p4, q4, r4⟩, n4⟩
  go_wp2
  go_ret
  exact ⟨⟨a4, c4, g4, rfl, o4, p4, q4, r4⟩, n4⟩
set_option maxHeartbeats 1000000 in
theorem implEarlySecret_any (w : World) (hH : HasH w) {a : Option Addr} {c : Nat} {ks : List Int} (h1 : Lq w a c ks) :
    Calls Tryd.prog 13 #[.slice a ks.length c] w fun e w' => NewRow w.heap.size w' e .u8 (eaA ks) ∧ Below w.heap.size w w' := by
  have KK := hide (knownKey_any w h1)
  have NS := fun W => hide (noSecret_any W)
  have TA : ∀ w1 (n0 : Below w.heap.size w w1) a2 c2 (h2 : Lq w1 a2 c2 zer32) a1 c1 (h1 : Lq w1 a1 c1 (knL ks)), Hid (Calls Tryd.prog 36 #[.func (.func 38) #[.agg #[.slice a2 zer32.length c2, .slice a1 (knL ks).length c1]] #[], .slice (some ⟨w1.heap.size, 0, none⟩) 1 1] (w1.alloc (.cells #[.slice a1 (knL ks).length c1] 22)) fun e w' => NewRow w.heap.size w' e .u8 (eaA ks) ∧ Below w.heap.size w w') := by
    intro w1 n0 a2 c2 h2 a1 c1 h1
    show Calls _ _ _ _ _
    have n1 := al1_up w1 (.slice a1 (knL ks).length c1)
    have T := takeExtract_any _ w1.heap.size [(a1, (knL ks).length, c1)] (rw1 w1 (a1, (knL ks).length, c1)) (by simp) (.agg #[.slice a2 zer32.length c2, .slice a1 (knL ks).length c1]) (macL zer32 (knL ks)) (fun _ => sExtract_any _ (hH.up (nxt n0 n1)) (h2.up n1) (h1.up n1))
    rw [oth1, show (if (knL ks).length = 32 then macL zer32 (knL ks) else []) = eaA ks from rfl] at T
    refine T.mono ?_
    rintro e w2 ⟨r, n2⟩
    have z0 := n0.size
    have z1 := n1.size
    exact ⟨r.low (Nat.le_trans z0 z1), nxt (nxt n0 n1) n2⟩
  clear h1 hH
  generalize eaA ks = ys at *
  generalize ks.length = m at *
  generalize knL ks = kk at *
  go_enter Tryd.func13, Tryd.ntmps13
  go_wp2_with fail
  refine KK.out.mono ?_
  rintro e w1 ⟨⟨a1, c1, rfl, L1⟩, n1⟩
  have NS1 := NS w1
  have L1 := hide L1
  clear NS KK
  go_wp2_with fail
  refine NS1.out.mono ?_
  rintro e w2 ⟨⟨a3, c3, g3, rfl, o3, p3, q3, r3⟩, n⟩
  have T := TA w2 (nxt n1 n) a3 c3 (Lq.of o3 p3 q3 zer32_byt (by rw [zer32_len]; decide)) a1 c1 (L1.out.up n)
  clear TA o3 p3 q3 NS1 L1
  generalize zer32.length = m2 at *
  generalize kk.length = m3 at *
  go_wp2_with fail
  refine T.out.mono ?_
  rintro e w2 ⟨⟨a4, c4, g4, rfl, o4, p4, q4, r4⟩, n4⟩
  go_wp2
  go_ret
  exact ⟨⟨a4, c4, g4, rfl, o4, p4, q4, r4⟩, n4⟩
theorem eaA_len (p : List Int) : (eaA p).length ≤ 32 := by
  unfold eaA
  split
  · rw [macL_len]
    exact Nat.le_refl _
  · simp
theorem eaA_byt (p : List Int) : Byt (eaA p) := by
  unfold eaA
  split
  · exact macL_byt _ _
  · exact byt_nil
set_option maxHeartbeats 1000000 in
theorem implBinderMac_any (w : World) (hH : HasH w) {a a' : Option Addr} {c c' : Nat} {ks xs : List Int} (h1 : Lq w a c ks) (h2 : Lq w a' c' xs) :
    Calls Tryd.prog 33 #[.slice a ks.length c, .slice a' xs.length c'] w fun e w' => NewRow w.heap.size w' e .u8 (bmA ks xs) ∧ Below w.heap.size w w' := by
  have KK := hide (implEarlySecret_any w hH h1)
  have NS : ∀ W, Below w.heap.size w W → Hid (Calls Tryd.prog 51 #[.slice a' xs.length c'] W fun e w' => NewRow W.heap.size w' e .u8 (hashL32 xs) ∧ Below W.heap.size W w') := fun W n => by
    obtain ⟨⟨g, r⟩, b, p, q, l⟩ := h2.up n
    exact implHash_32 W g a' c' xs r b q (by omega) (hH.1.up n) (hH.2.up n)
  have TA : ∀ w1 (n0 : Below w.heap.size w w1) a2 c2 (h2 : Lq w1 a2 c2 (hashL32 xs)) a1 c1 (h1 : Lq w1 a1 c1 (eaA ks)), Hid (Calls Tryd.prog 36 #[.func (.func 52) #[.agg #[.slice a1 (eaA ks).length c1, .slice a2 (hashL32 xs).length c2]] #[], .slice (some ⟨w1.heap.size, 0, none⟩) 1 1] (w1.alloc (.cells #[.slice a1 (eaA ks).length c1] 22)) fun e w' => NewRow w.heap.size w' e .u8 (bmA ks xs) ∧ Below w.heap.size w w') := by
    intro w1 n0 a2 c2 h2 a1 c1 h1
    show Calls _ _ _ _ _
    have n1 := al1_up w1 (.slice a1 (eaA ks).length c1)
    have T := takeBind_any _ w1.heap.size [(a1, (eaA ks).length, c1)] (rw1 w1 (a1, (eaA ks).length, c1)) (by simp) (.agg #[.slice a1 (eaA ks).length c1, .slice a2 (hashL32 xs).length c2]) (macL (labA (labA (eaA ks) lbB hE 32) lbF [] 32) (hashL32 xs)) (fun _ => sBind_any _ (hH.up (nxt n0 n1)) (h1.up n1) (h2.up n1))
    rw [oth1, show (if (eaA ks).length = 32 then macL (labA (labA (eaA ks) lbB hE 32) lbF [] 32) (hashL32 xs) else []) = bmA ks xs from rfl] at T
    refine T.mono ?_
    rintro e w2 ⟨r, n2⟩
    have z0 := n0.size
    have z1 := n1.size
    exact ⟨r.low (Nat.le_trans z0 z1), nxt (nxt n0 n1) n2⟩
  clear h1 hH h2
  have EL := hide (eaA_len ks)
  have EB := hide (eaA_byt ks)
  have HL := hide (hash_len32 xs)
  have HB := hide (hash_byt32 xs)
  generalize bmA ks xs = ys at *
  generalize ks.length = m at *
  generalize eaA ks = kk at *
  generalize hashL32 xs = hh at *
  generalize xs.length = m1 at *
  go_enter Tryd.func33, Tryd.ntmps33
  go_wp2_with fail
  refine KK.out.mono ?_
  rintro e w1 ⟨⟨a1, c1, g1, rfl, o1, p1, q1, r1⟩, n1⟩
  have NS1 := NS w1 n1
  have L1 := hide (Lq.of o1 p1 q1 EB.out (by have := EL.out; omega))
  clear NS KK o1 p1 q1
  go_wp2_with fail
  refine NS1.out.mono ?_
  rintro e w2 ⟨⟨a3, c3, g3, rfl, o3, p3, q3, r3⟩, n⟩
  have T := TA w2 (nxt n1 n) a3 c3 (Lq.of o3 p3 q3 HB.out (by have := HL.out; omega)) a1 c1 (L1.out.up n)
  clear TA o3 p3 q3 NS1 L1 HL HB EL EB
  generalize hh.length = m2 at *
  generalize kk.length = m3 at *
  go_wp2_with fail
  refine T.out.mono ?_
  rintro e w2 ⟨⟨a4, c4, g4, rfl, o4, p4, q4, r4⟩, n4⟩
  go_wp2
  go_ret
  exact ⟨⟨a4, c4, g4, rfl, o4, p4, q4, r4⟩, n4⟩
end Go.Proofs.YtnfciobpfiibcaaDoor

/-
  The model's schedule (written by gens/kss.py).
-/
namespace Go.Proofs.YtnfciobpfiibcaaDoor
set_option maxRecDepth 100000
open Go Go.RowKit

/-- 32 bytes 0 are made. -/
theorem step_make32 {ops : Array Oper} {Q : Exit → Act → World → Prop} {md : Region.Mode} {F : Nat → Fact} {a0 : Act} {w0 : World} {i : Nat} {o : Oper} (hi : ops[i]? = some o) (hop : o.op = .makeSlice 22 (.const (.int .i64 32)) (.const (.int .i64 32))) (hF : F i = RNh w0.heap.size zer32) : StepOk Tryd.prog md ops Q F a0 w0 i := by
  obtain ⟨i0, h1, hz0, hz1, hz2⟩ := info_parts Tryd.info5
  refine step_grow hi fun a w _ hw _ => ?_
  obtain ⟨w', hrun, hown, hgrow⟩ := run_make_full (P := Tryd.prog) w w.heap.size 22 5 i0 (.int .u8 0) 1 Tryd.underlying22 h1 hz0 hz1 .i64 .i64 32 (by rw [hz2]; decide) (by unfold maxLen; decide) (Nat.le_refl _)
  have hB0 := Blk.of_made hown
  have hN0 : Below w.heap.size w w' := (Below.refl _ _).grown hgrow (Nat.le_refl _) (by simp)
  have hrun' : (Instr.makeSlice 22 (.int .i64 32) (.int .i64 32)).run Tryd.prog w = .ok (.slice (some ⟨w.heap.size, 0, none⟩) 32 32) w' := hrun
  refine ⟨.slice (some ⟨w.heap.size, 0, none⟩) 32 32, w', by simp [execOp, hop, hrun', Act.eval], hN0, ?_⟩
  rw [hF]
  exact ⟨some ⟨w.heap.size, 0, none⟩, 32, w.heap.size, by rw [zer32_len], hB0.own0, fun h => by simp at h, by rw [zer32_len]; exact Nat.le_refl _, hw.size⟩
theorem step_asg {ops : Array Oper} {Q : Exit → Act → World → Prop} {md : Region.Mode} {F : Nat → Fact} {a0 : Act} {w0 : World} {i : Nat} {o : Oper} {B : Nat} {ys : List Int} (hi : ops[i]? = some o) (p j : Nat) (hop : o.op = .assign (.tmp p)) (hj : waits md ops i j p = true) (hFj : F j = RNh B ys) (hFi : F i = RNh B ys) : StepOk Tryd.prog md ops Q F a0 w0 i := by
  refine step_pure hi fun a w _ _ hf => ?_
  have h1 := hf j p hj
  rw [hFj] at h1
  obtain ⟨a1, c1, g1, e7, o1, p1, q1, r1⟩ := h1
  have x1 : a.eval (.tmp p) = .slice a1 ys.length c1 := e7
  exact ⟨.slice a1 ys.length c1, by simp [execOp, hop, x1], by rw [hFi]; exact ⟨a1, c1, g1, rfl, o1, p1, q1, r1⟩⟩
set_option maxHeartbeats 1000000 in
theorem l14All_any (w : World) (a a' : Option Addr) (n n' c c' : Nat) :
    Calls Tryd.prog 41 #[.slice a n c, .slice a' n' c'] w fun e w' => e = .returned (.bool (decide (n = 32 ∧ n' = 32))) ∧ w' = w := by
  by_cases h : n = 32
  · subst h
    by_cases h' : n' = 32
    · subst h'
      go_enter Tryd.func41, Tryd.ntmps41
      go_wp2
      go_ret
      exact ⟨rfl, rfl⟩
    · have t : ((n' : Int) == 32) = false := beq_eq_false_iff_ne.2 (by omega)
      have t2 : decide (32 = 32 ∧ n' = 32) = false := decide_eq_false (by omega)
      rw [t2]
      go_enter Tryd.func41, Tryd.ntmps41
      go_wp2
      go_ret
      exact ⟨rfl, rfl⟩
  · have t : ((n : Int) == 32) = false := beq_eq_false_iff_ne.2 (by omega)
    have t2 : decide (n = 32 ∧ n' = 32) = false := decide_eq_false (by omega)
    rw [t2]
    go_enter Tryd.func41, Tryd.ntmps41
    go_wp2
    go_ret
    exact ⟨rfl, rfl⟩
def al0 (w : World) : World := w.alloc (.cells #[] 5)
theorem al0_up (w : World) : Below w.heap.size w (al0 w) := (Below.refl _ _).alloc (Nat.le_refl _) _
set_option maxHeartbeats 1000000 in
theorem l14Nothing_any (w : World) :
    Calls Tryd.prog 48 #[] w fun e w' => NewRow w.heap.size w' e .u8 hE ∧ Below w.heap.size w w' := by
  have n1 := al0_up w
  have C : Hid (Calls Tryd.prog 50 #[.slice (some ⟨w.heap.size, 0, none⟩) 0 0] (al0 w) fun e w' => NewRow (al0 w).heap.size w' e .u8 hE ∧ Below (al0 w).heap.size (al0 w) w') := specHash_L (al0 w) 0 (some ⟨w.heap.size, 0, none⟩) 0 [] (Rd.nil _ _ _ _) byt_nil (fun _ => rfl) (by simp)
  have N1 := hide n1
  clear n1
  unfold al0 at C N1
  generalize hE = ys at *
  go_enter Tryd.func48, Tryd.ntmps48
  go_wp2_with fail
  refine C.out.mono ?_
  rintro e w1 ⟨⟨a3, c3, g3, rfl, o3, p3, q3, r3⟩, n⟩
  have z1 := N1.out.size
  go_wp2
  go_ret
  exact ⟨⟨a3, c3, g3, rfl, o3, p3, q3, by omega⟩, nxt N1.out n⟩
/-- ExpandLabel with no context. -/
theorem specLab0 (w : World) {a : Option Addr} {c : Nat} {ks : List Int} (h : Lq (al0 w) a c ks) (s : ByteArray) (hs : s.size ≤ 1048576) (n : Int) : Hid (Calls Tryd.prog 39 #[.slice a ks.length c, .string s, .slice (some ⟨w.heap.size, 0, none⟩) 0 0, .int .i64 n] (al0 w) fun e w' => NewRow (al0 w).heap.size w' e .u8 (labA ks s [] n) ∧ Below (al0 w).heap.size (al0 w) w') := by
  obtain ⟨⟨g, r⟩, b, p, q, l⟩ := h
  exact specLabel_any (al0 w) g a c ks r b p l s hs 0 (some ⟨w.heap.size, 0, none⟩) 0 [] (Rd.nil _ _ _ _) byt_nil (fun _ => rfl) (by simp) n
theorem specLabQ (w : World) {a a' : Option Addr} {c c' : Nat} {ks xs : List Int} (h : Lq w a c ks) (h' : Lq w a' c' xs) (s : ByteArray) (hs : s.size ≤ 1048576) (n : Int) : Hid (Calls Tryd.prog 39 #[.slice a ks.length c, .string s, .slice a' xs.length c', .int .i64 n] w fun e w' => NewRow w.heap.size w' e .u8 (labA ks s xs n) ∧ Below w.heap.size w w') := by
  obtain ⟨⟨g, r⟩, b, p, q, l⟩ := h
  obtain ⟨⟨g', r'⟩, b', p', q', l'⟩ := h'
  exact specLabel_any w g a c ks r b p l s hs g' a' c' xs r' b' p' l' n
theorem specMacQ (w : World) {a a' : Option Addr} {c c' : Nat} {ks xs : List Int} (h : Lq w a c ks) (h' : Lq w a' c' xs) : Hid (Calls Tryd.prog 42 #[.slice a ks.length c, .slice a' xs.length c'] w fun e w' => NewRow w.heap.size w' e .u8 (macL ks xs) ∧ Below w.heap.size w w') := by
  obtain ⟨⟨g, r⟩, b, p, q, l⟩ := h
  obtain ⟨⟨g', r'⟩, b', p', q', l'⟩ := h'
  exact specMac_any w g a c ks r b p l g' a' c' xs r' b' p' (by omega)
theorem specExtQ (w : World) {a a' : Option Addr} {c c' : Nat} {ks xs : List Int} (h : Lq w a c ks) (h' : Lq w a' c' xs) : Hid (Calls Tryd.prog 34 #[.slice a ks.length c, .slice a' xs.length c'] w fun e w' => NewRow w.heap.size w' e .u8 (macL ks xs) ∧ Below w.heap.size w w') := by
  obtain ⟨⟨g, r⟩, b, p, q, l⟩ := h
  obtain ⟨⟨g', r'⟩, b', p', q', l'⟩ := h'
  exact specExtract_any w g a c ks r b p l g' a' c' xs r' b' p' (by omega)
theorem specDerQ (w : World) {a a' : Option Addr} {c c' : Nat} {ks xs : List Int} (h : Lq w a c ks) (h' : Lq w a' c' xs) (s : ByteArray) (hs : s.size ≤ 1048576) : Hid (Calls Tryd.prog 47 #[.slice a ks.length c, .string s, .slice a' xs.length c'] w fun e w' => NewRow w.heap.size w' e .u8 (labA ks s xs 32) ∧ Below w.heap.size w w') := by
  obtain ⟨⟨g, r⟩, b, p, q, l⟩ := h
  obtain ⟨⟨g', r'⟩, b', p', q', l'⟩ := h'
  exact specDerive_any w g a c ks r b p l s hs g' a' c' xs r' b' p' l'
theorem labQ {w : World} {a : Option Addr} {c g : Nat} {ks : List Int} {s : ByteArray} {xs : List Int} {n : Int} (o : Own w g a .u8 (labA ks s xs n)) (p : a = none → c = 0) (q : (labA ks s xs n).length ≤ c) : Lq w a c (labA ks s xs n) := Lq.of o p q (labA_byt _ _ _ _) (Nat.le_trans (labA_len _ _ _ _) (by decide))
theorem hEQ {w : World} {a : Option Addr} {c g : Nat} (o : Own w g a .u8 hE) (p : a = none → c = 0) (q : hE.length ≤ c) : Lq w a c hE := Lq.of o p q hE_byt (by rw [hE_len]; decide)
set_option maxHeartbeats 1000000 in
theorem specFinishedMac_any (w : World) {a a' : Option Addr} {c c' : Nat} {ks xs : List Int} (h1 : Lq w a c ks) (h2 : Lq w a' c' xs) :
    Calls Tryd.prog 19 #[.slice a ks.length c, .slice a' xs.length c'] w fun e w' => NewRow w.heap.size w' e .u8 (fmA ks xs) ∧ Below w.heap.size w w' := by
  have AL := hide (l14All_any w a a' ks.length xs.length c c')
  by_cases h : ks.length = 32 ∧ xs.length = 32
  rotate_left
  · have t : decide (ks.length = 32 ∧ xs.length = 32) = false := decide_eq_false h
    rw [t] at AL
    have e : fmA ks xs = [] := by unfold fmA; rw [if_neg h]
    rw [e]
    clear h t
    go_enter Tryd.func19, Tryd.ntmps19
    go_wp2_with fail
    refine AL.out.mono ?_
    rintro e w1 ⟨rfl, rfl⟩
    go_wp2
    go_ret
    exact ⟨newRow_e _ _, al0_up _⟩
  have t : decide (ks.length = 32 ∧ xs.length = 32) = true := decide_eq_true h
  rw [t] at AL
  have e : fmA ks xs = macL (labA ks lbF [] 32) xs := by unfold fmA; rw [if_pos h]
  rw [e]
  clear h t
  have n1 := al0_up w
  have LB := specLab0 w (h1.up n1) lbF (by decide) 32
  have MC := fun W (n : Below w.heap.size w W) a1 c1 (h : Lq W a1 c1 (labA ks lbF [] 32)) => specMacQ W h (h2.up n)
  have N1 := hide n1
  clear h1 n1 h2
  have LQ := fun (W : World) (a : Option Addr) (c g : Nat) (o : Own W g a .u8 (labA ks lbF [] 32)) p q => hide (labQ (c := c) o p q)
  unfold al0 at LB N1
  generalize labA ks lbF [] 32 = ls at *
  generalize macL ls xs = ys at *
  generalize ks.length = m at *
  generalize xs.length = m' at *
  unfold lbF at LB
  go_enter Tryd.func19, Tryd.ntmps19
  go_wp2_with fail
  refine AL.out.mono ?_
  rintro e w1 ⟨rfl, rfl⟩
  go_wp2_with fail
  refine LB.out.mono ?_
  rintro e w2 ⟨⟨a3, c3, g3, rfl, o3, p3, q3, r3⟩, n⟩
  have n2 := nxt N1.out n
  have M := MC w2 n2 a3 c3 (LQ w2 a3 c3 g3 o3 p3 q3).out
  clear MC LQ o3 p3 q3
  go_wp2_with fail
  refine M.out.mono ?_
  rintro e w3 ⟨⟨a4, c4, g4, rfl, o4, p4, q4, r4⟩, n4⟩
  have z := n2.size
  go_wp2
  go_ret
  exact ⟨⟨a4, c4, g4, rfl, o4, p4, q4, by omega⟩, nxt n2 n4⟩
set_option maxHeartbeats 1000000 in
theorem specTicketSecret_any (w : World) {a a' : Option Addr} {c c' : Nat} {ks xs : List Int} (h1 : Lq w a c ks) (h2 : Lq w a' c' xs) :
    Calls Tryd.prog 21 #[.slice a ks.length c, .slice a' xs.length c'] w fun e w' => NewRow w.heap.size w' e .u8 (tkA ks xs) ∧ Below w.heap.size w w' := by
  have AL := hide (l14All_any w a a' ks.length xs.length c c')
  by_cases h : ks.length = 32 ∧ xs.length = 32
  rotate_left
  · have t : decide (ks.length = 32 ∧ xs.length = 32) = false := decide_eq_false h
    rw [t] at AL
    have e : tkA ks xs = [] := by unfold tkA; rw [if_neg h]
    rw [e]
    clear h t
    go_enter Tryd.func21, Tryd.ntmps21
    go_wp2_with fail
    refine AL.out.mono ?_
    rintro e w1 ⟨rfl, rfl⟩
    go_wp2
    go_ret
    exact ⟨newRow_e _ _, al0_up _⟩
  have t : decide (ks.length = 32 ∧ xs.length = 32) = true := decide_eq_true h
  rw [t] at AL
  have e : tkA ks xs = labA ks lbT xs 32 := by unfold tkA; rw [if_pos h]
  rw [e]
  clear h t
  have LB := specLabQ w h1 h2 lbT (by decide) 32
  clear h1 h2
  generalize labA ks lbT xs 32 = ys at *
  generalize ks.length = m at *
  generalize xs.length = m' at *
  unfold lbT at LB
  go_enter Tryd.func21, Tryd.ntmps21
  go_wp2_with fail
  refine AL.out.mono ?_
  rintro e w1 ⟨rfl, rfl⟩
  go_wp2_with fail
  refine LB.out.mono ?_
  rintro e w3 ⟨⟨a4, c4, g4, rfl, o4, p4, q4, r4⟩, n4⟩
  go_wp2
  go_ret
  exact ⟨⟨a4, c4, g4, rfl, o4, p4, q4, r4⟩, n4⟩
set_option maxHeartbeats 1000000 in
theorem specHandshakeSecret_any (w : World) {a a' : Option Addr} {c c' : Nat} {ks xs : List Int} (h1 : Lq w a c ks) (h2 : Lq w a' c' xs) :
    Calls Tryd.prog 30 #[.slice a ks.length c, .slice a' xs.length c'] w fun e w' => NewRow w.heap.size w' e .u8 (hsA ks xs) ∧ Below w.heap.size w w' := by
  have AL := hide (l14All_any w a a' ks.length xs.length c c')
  by_cases h : ks.length = 32 ∧ xs.length = 32
  rotate_left
  · have t : decide (ks.length = 32 ∧ xs.length = 32) = false := decide_eq_false h
    rw [t] at AL
    have e : hsA ks xs = [] := by unfold hsA; rw [if_neg h]
    rw [e]
    clear h t
    go_enter Tryd.func30, Tryd.ntmps30
    go_wp2_with fail
    refine AL.out.mono ?_
    rintro e w1 ⟨rfl, rfl⟩
    go_wp2
    go_ret
    exact ⟨newRow_e _ _, al0_up _⟩
  have t : decide (ks.length = 32 ∧ xs.length = 32) = true := decide_eq_true h
  rw [t] at AL
  have e : hsA ks xs = macL (labA ks lbD hE 32) xs := by unfold hsA; rw [if_pos h]
  rw [e]
  clear h t
  have NO := hide (l14Nothing_any w)
  have DE := fun W (n : Below w.heap.size w W) a1 c1 (h : Lq W a1 c1 hE) => specDerQ W (h1.up n) h lbD (by decide)
  have EX := fun W (n : Below w.heap.size w W) a1 c1 (h : Lq W a1 c1 (labA ks lbD hE 32)) => specExtQ W h (h2.up n)
  have LQ := fun (W : World) (a : Option Addr) (c g : Nat) (o : Own W g a .u8 (labA ks lbD hE 32)) p q => hide (labQ (c := c) o p q)
  have HQ := fun (W : World) (a : Option Addr) (c g : Nat) (o : Own W g a .u8 hE) p q => hide (hEQ (c := c) o p q)
  clear h1 h2
  generalize labA ks lbD hE 32 = ls at *
  generalize hE = hh at *
  generalize macL ls xs = ys at *
  generalize ks.length = m at *
  generalize xs.length = m' at *
  unfold lbD at DE
  go_enter Tryd.func30, Tryd.ntmps30
  go_wp2_with fail
  refine AL.out.mono ?_
  rintro e w1 ⟨rfl, rfl⟩
  go_wp2_with fail
  refine NO.out.mono ?_
  rintro e w2 ⟨⟨a2, c2, g2, rfl, o2, p2, q2, r2⟩, n2⟩
  have D := DE w2 n2 a2 c2 (HQ w2 a2 c2 g2 o2 p2 q2).out
  clear DE HQ o2 p2 q2
  go_wp2_with fail
  refine D.out.mono ?_
  rintro e w3 ⟨⟨a3, c3, g3, rfl, o3, p3, q3, r3⟩, n3⟩
  have N3 := nxt n2 n3
  have M := EX w3 N3 a3 c3 (LQ w3 a3 c3 g3 o3 p3 q3).out
  clear EX LQ o3 p3 q3
  go_wp2_with fail
  refine M.out.mono ?_
  rintro e w4 ⟨⟨a4, c4, g4, rfl, o4, p4, q4, r4⟩, n4⟩
  have z := N3.size
  go_wp2
  go_ret
  exact ⟨⟨a4, c4, g4, rfl, o4, p4, q4, by omega⟩, nxt N3 n4⟩
set_option maxHeartbeats 1000000 in
theorem specNextSecret_any (w : World) {a : Option Addr} {c : Nat} {ks : List Int} (h1 : Lq w a c ks) :
    Calls Tryd.prog 17 #[.slice a ks.length c] w fun e w' => NewRow w.heap.size w' e .u8 (nxA ks) ∧ Below w.heap.size w w' := by
  by_cases h : ks.length = 32
  rotate_left
  · have t : ((ks.length : Int) != 32) = true := bne_iff_ne.2 (by omega)
    have e : nxA ks = [] := by unfold nxA; rw [if_neg h]
    rw [e]
    clear h h1
    go_enter Tryd.func17, Tryd.ntmps17
    go_wp2
    go_ret
    exact ⟨newRow_e _ _, al0_up _⟩
  have t : ((ks.length : Int) != 32) = false := by rw [h]; rfl
  have e : nxA ks = labA ks lbU [] 32 := by unfold nxA; rw [if_pos h]
  rw [e]
  clear h
  have n1 := al0_up w
  have LB := specLab0 w (h1.up n1) lbU (by decide) 32
  have N1 := hide n1
  clear h1 n1
  unfold al0 at LB N1
  generalize labA ks lbU [] 32 = ys at *
  generalize ks.length = m at *
  unfold lbU at LB
  go_enter Tryd.func17, Tryd.ntmps17
  go_wp2_with fail
  refine LB.out.mono ?_
  rintro e w2 ⟨⟨a3, c3, g3, rfl, o3, p3, q3, r3⟩, n⟩
  have z := N1.out.size
  go_wp2
  go_ret
  exact ⟨⟨a3, c3, g3, rfl, o3, p3, q3, by omega⟩, nxt N1.out n⟩
set_option maxHeartbeats 1000000 in
theorem specMasterSecret_any (w : World) {a : Option Addr} {c : Nat} {ks : List Int} (h1 : Lq w a c ks) :
    Calls Tryd.prog 28 #[.slice a ks.length c] w fun e w' => NewRow w.heap.size w' e .u8 (msA ks) ∧ Below w.heap.size w w' := by
  by_cases h : ks.length = 32
  rotate_left
  · have t : ((ks.length : Int) != 32) = true := bne_iff_ne.2 (by omega)
    have e : msA ks = [] := by unfold msA; rw [if_neg h]
    rw [e]
    clear h h1
    go_enter Tryd.func28, Tryd.ntmps28
    go_wp2
    go_ret
    exact ⟨newRow_e _ _, al0_up _⟩
  have t : ((ks.length : Int) != 32) = false := by rw [h]; rfl
  have e : msA ks = macL (labA ks lbD hE 32) zer32 := by unfold msA; rw [if_pos h]
  rw [e]
  clear h
  go_enter Tryd.func28, Tryd.ntmps28
  go_upto_region 3 with fail
  refine region_end 6 (fun i => [Fact.eq (.slice a ks.length c), RNh w.heap.size hE, RNh w.heap.size (labA ks lbD hE 32), RNh w.heap.size zer32, RNh w.heap.size (macL (labA ks lbD hE 32) zer32), RNh w.heap.size (macL (labA ks lbD hE 32) zer32)].getD i Fact.no) (by kernel_rfl) (by kernel_rfl) rfl ?_ ?_
  · intro i hi
    obtain rfl | rfl | rfl | rfl | rfl | rfl : i = 0 ∨ i = 1 ∨ i = 2 ∨ i = 3 ∨ i = 4 ∨ i = 5 := by omega
    · refine step_pure rfl fun A ww hb hw hf => ?_
      have e1 : A.tmps[0]?.getD undef = .slice a ks.length c := gdv (hb.2.2 0 (by kernel_rfl))
      exact ⟨.slice a ks.length c, by simp [go_sem, e1], rfl⟩
    · refine step_callv rfl 48 _ _ rfl (by kernel_rfl) fun A ww hb hw hf => ?_
      exact (l14Nothing_any ww).mono (by rintro r w' ⟨⟨a1, c1, g1, rfl, o1, p1, q1, r1⟩, n⟩; exact ⟨_, rfl, n, a1, c1, g1, rfl, o1, p1, q1, Nat.le_trans hw.size r1⟩)
    · refine step_callv rfl 47 _ _ rfl (by kernel_rfl) fun A ww hb hw hf => ?_
      have e7 : A.tmps.getD 7 undef = .slice a ks.length c := hf 0 7 (by kernel_rfl)
      obtain ⟨a1, c1, g1, e8, o1, p1, q1, r1⟩ := hf 1 8 (by kernel_rfl)
      show Calls Tryd.prog 47 #[A.tmps.getD 7 undef, .string lbD, A.tmps.getD 8 undef] ww _
      rw [e7, e8]
      exact (specDerQ ww (h1.up hw) (hEQ o1 p1 q1) lbD (by decide)).out.mono (by rintro r w' ⟨⟨a1, c1, g1, rfl, o1, p1, q1, r1⟩, n⟩; exact ⟨_, rfl, n, a1, c1, g1, rfl, o1, p1, q1, Nat.le_trans hw.size r1⟩)
    · exact step_make32 rfl rfl rfl
    · refine step_callv rfl 34 _ _ rfl (by kernel_rfl) fun A ww hb hw hf => ?_
      obtain ⟨a1, c1, g1, e9, o1, p1, q1, r1⟩ := hf 2 9 (by kernel_rfl)
      obtain ⟨a2, c2, g2, e10, o2, p2, q2, r2⟩ := hf 3 10 (by kernel_rfl)
      show Calls Tryd.prog 34 #[A.tmps.getD 9 undef, A.tmps.getD 10 undef] ww _
      rw [e9, e10]
      exact (specExtQ ww (labQ o1 p1 q1) (Lq.of o2 p2 q2 zer32_byt (by rw [zer32_len]; decide))).out.mono (by rintro r w' ⟨⟨a1, c1, g1, rfl, o1, p1, q1, r1⟩, n⟩; exact ⟨_, rfl, n, a1, c1, g1, rfl, o1, p1, q1, Nat.le_trans hw.size r1⟩)
    · exact step_asg rfl 11 4 rfl (by kernel_rfl) rfl rfl
  intro A W hb hw hF
  have e2 := hF 5 2 (by kernel_rfl)
  obtain ⟨vs, hvs⟩ : ∃ vs : Nat → Value, ∀ d, A.tmps.getD d undef = vs d := ⟨_, fun _ => rfl⟩
  rw [hvs] at e2
  rw [puts_of (md := .any) (k := 6) (by kernel_rfl) rfl hb vs hvs]
  clear hb hF hvs h1
  obtain ⟨a1, c1, g1, e3, o1, p1, q1, r1⟩ := e2
  simp only [puts, e3, Act.put, List.setIfInBounds_toArray, List.set_cons_succ, List.set_cons_zero]
  go_wp2
  go_ret
  exact ⟨⟨a1, c1, g1, rfl, o1, p1, q1, r1⟩, hw⟩
set_option maxHeartbeats 1000000 in
theorem specEarlySecret_any (w : World) {a : Option Addr} {c : Nat} {ks : List Int} (h1 : Lq w a c ks) :
    Calls Tryd.prog 11 #[.slice a ks.length c] w fun e w' => NewRow w.heap.size w' e .u8 (eaA ks) ∧ Below w.heap.size w w' := by
  by_cases h0 : ks.length = 0
  · have t : ((ks.length : Int) == 0) = true := by rw [h0]; rfl
    have e : eaA ks = macL zer32 zer32 := by
      have : knL ks = zer32 := by unfold knL; rw [if_pos h0]
      unfold eaA
      rw [this, if_pos zer32_len]
    rw [e]
    clear h0
    go_enter Tryd.func11, Tryd.ntmps11
    go_upto_region 2 with fail
    refine region_end 4 (fun i => [RNh w.heap.size zer32, RNh w.heap.size zer32, RNh w.heap.size (macL zer32 zer32), RNh w.heap.size (macL zer32 zer32)].getD i Fact.no) (by kernel_rfl) (by kernel_rfl) rfl ?_ ?_
    · intro i hi
      obtain rfl | rfl | rfl | rfl : i = 0 ∨ i = 1 ∨ i = 2 ∨ i = 3 := by omega
      · exact step_make32 rfl rfl rfl
      · exact step_make32 rfl rfl rfl
      · refine step_callv rfl 34 _ _ rfl (by kernel_rfl) fun A ww hb hw hf => ?_
        obtain ⟨a1, c1, g1, e9, o1, p1, q1, r1⟩ := hf 0 6 (by kernel_rfl)
        obtain ⟨a2, c2, g2, e10, o2, p2, q2, r2⟩ := hf 1 7 (by kernel_rfl)
        show Calls Tryd.prog 34 #[A.tmps.getD 6 undef, A.tmps.getD 7 undef] ww _
        rw [e9, e10]
        exact (specExtQ ww (Lq.of o1 p1 q1 zer32_byt (by rw [zer32_len]; decide)) (Lq.of o2 p2 q2 zer32_byt (by rw [zer32_len]; decide))).out.mono (by rintro r w' ⟨⟨a1, c1, g1, rfl, o1, p1, q1, r1⟩, n⟩; exact ⟨_, rfl, n, a1, c1, g1, rfl, o1, p1, q1, Nat.le_trans hw.size r1⟩)
      · exact step_asg rfl 8 2 rfl (by kernel_rfl) rfl rfl
    intro A W hb hw hF
    have e2 := hF 3 2 (by kernel_rfl)
    obtain ⟨vs, hvs⟩ : ∃ vs : Nat → Value, ∀ d, A.tmps.getD d undef = vs d := ⟨_, fun _ => rfl⟩
    rw [hvs] at e2
    rw [puts_of (md := .any) (k := 4) (by kernel_rfl) rfl hb vs hvs]
    clear hb hF hvs h1
    obtain ⟨a1, c1, g1, e3, o1, p1, q1, r1⟩ := e2
    simp only [puts, e3, Act.put, List.setIfInBounds_toArray, List.set_cons_succ, List.set_cons_zero]
    go_wp2
    go_ret
    exact ⟨⟨a1, c1, g1, rfl, o1, p1, q1, r1⟩, hw⟩
  have t0 : ((ks.length : Int) == 0) = false := beq_eq_false_iff_ne.2 (by omega)
  have ek : knL ks = ks := by unfold knL; rw [if_neg h0]
  clear h0
  by_cases h : ks.length = 32
  rotate_left
  · have t : ((ks.length : Int) != 32) = true := bne_iff_ne.2 (by omega)
    have e : eaA ks = [] := by unfold eaA; rw [ek, if_neg h]
    rw [e]
    clear h h1 ek
    go_enter Tryd.func11, Tryd.ntmps11
    go_wp2
    go_ret
    exact ⟨newRow_e _ _, al0_up _⟩
  have t : ((ks.length : Int) != 32) = false := by rw [h]; rfl
  have e : eaA ks = macL zer32 ks := by unfold eaA; rw [ek, if_pos h]
  rw [e]
  clear h ek
  obtain ⟨i0, hi, hz0, hz1, hz2⟩ := info_parts Tryd.info5
  have EX := fun W (n : Below w.heap.size w W) a1 c1 (h : Lq W a1 c1 zer32) => specExtQ W h (h1.up n)
  clear h1
  generalize macL zer32 ks = ys at *
  generalize ks.length = m at *
  go_enter Tryd.func11, Tryd.ntmps11
  go_wp2_with (at_make; refine wpList_make_full _ rfl _ _ 22 rfl w.heap.size 5 i0 (.int .u8 0) 1 Tryd.underlying22 hi hz0 hz1 .i64 .i64 _ _ 32 rfl rfl rfl rfl (by rw [hz2]; decide) (by unfold maxLen; decide) (Nat.le_refl _) ?_; intro w5 hown hgrow)
  have hB0 : Blk w5 w.heap.size .u8 zer32 := Blk.of_made hown
  have hN0 : Below w.heap.size w w5 := (Below.refl _ _).grown hgrow (Nat.le_refl _) (by simp)
  have E := EX w5 hN0 (some ⟨w.heap.size, 0, none⟩) 32 (Lq.of hB0.own0 (fun h => by simp at h) (by rw [zer32_len]; exact Nat.le_refl _) zer32_byt (by rw [zer32_len]; decide))
  rw [zer32_len] at E
  clear EX hown hgrow hB0
  go_wp2_with fail
  refine E.out.mono ?_
  rintro e w4 ⟨⟨a4, c4, g4, rfl, o4, p4, q4, r4⟩, n4⟩
  have z := hN0.size
  go_wp2
  go_ret
  exact ⟨⟨a4, c4, g4, rfl, o4, p4, q4, by omega⟩, nxt hN0 n4⟩
theorem ea_full {ks : List Int} (h : ks.length = 32 ∨ ks.length = 0) : (eaA ks).length = 32 := by
  unfold eaA
  have : (knL ks).length = 32 := by
    unfold knL
    split
    · exact zer32_len
    · omega
  rw [if_pos this, macL_len]
theorem ea_none {ks : List Int} (h : ¬ (ks.length = 32 ∨ ks.length = 0)) : (eaA ks).length ≠ 32 := by
  unfold eaA
  have : (knL ks).length ≠ 32 := by
    unfold knL
    split
    · omega
    · omega
  rw [if_neg this]
  simp
theorem fm_full (ks xs : List Int) (h : (labA (eaA ks) lbB hE 32).length = 32) : fmA (labA (eaA ks) lbB hE 32) (hashL32 xs) = macL (labA (labA (eaA ks) lbB hE 32) lbF [] 32) (hashL32 xs) := by
  unfold fmA
  rw [if_pos ⟨h, hash_len32 _⟩]
set_option maxHeartbeats 1000000 in
theorem specBinderMac_any (w : World) {a a' : Option Addr} {c c' : Nat} {ks xs : List Int} (h1 : Lq w a c ks) (h2 : Lq w a' c' xs) :
    Calls Tryd.prog 32 #[.slice a ks.length c, .slice a' xs.length c'] w fun e w' => NewRow w.heap.size w' e .u8 (bmA ks xs) ∧ Below w.heap.size w w' := by
  by_cases h : ks.length = 32 ∨ ks.length = 0
  rotate_left
  · have t : ((ks.length : Int) != 32) = true := bne_iff_ne.2 (by omega)
    have t' : ((ks.length : Int) != 0) = true := bne_iff_ne.2 (by omega)
    have e : bmA ks xs = [] := by unfold bmA; rw [if_neg (ea_none h)]
    rw [e]
    clear h h1 h2
    generalize ks.length = m at *
    go_enter Tryd.func32, Tryd.ntmps32
    go_wp2
    go_ret
    exact ⟨newRow_e _ _, al0_up _⟩
  have ES := hide (specEarlySecret_any w h1)
  have LF : (labA (eaA ks) lbB hE 32).length = 32 := labA_full (eaA ks) lbB hE 32 (by decide) (by rw [hE_len]; decide) (by decide)
  have e : bmA ks xs = fmA (labA (eaA ks) lbB hE 32) (hashL32 xs) := by
    rw [fm_full ks xs LF]
    unfold bmA
    rw [if_pos (ea_full h)]
  rw [e]
  have EB := eaA_byt ks
  have EL := eaA_len ks
  have NO := fun W => hide (l14Nothing_any W)
  have EQ := fun (W : World) (a : Option Addr) (c g : Nat) (o : Own W g a .u8 (eaA ks)) p q => hide (Lq.of (c := c) o p q EB (by omega))
  have HQ := fun (W : World) (a : Option Addr) (c g : Nat) (o : Own W g a .u8 hE) p q => hide (hEQ (c := c) o p q)
  have LQ := fun (W : World) (a : Option Addr) (c g : Nat) (o : Own W g a .u8 (labA (eaA ks) lbB hE 32)) p q => hide (labQ (c := c) o p q)
  have SQ := fun (W : World) (a : Option Addr) (c g : Nat) (o : Own W g a .u8 (hashL32 xs)) p q => hide (Lq.of (c := c) o p q (hash_byt32 xs) (by rw [hash_len32]; decide))
  have DE := fun W a0 c0 (h0 : Lq W a0 c0 (eaA ks)) a1 c1 (h : Lq W a1 c1 hE) => specDerQ W h0 h lbB (by decide)
  have HA : ∀ W, Below w.heap.size w W → Hid (Calls Tryd.prog 50 #[.slice a' xs.length c'] W fun e w' => NewRow W.heap.size w' e .u8 (hashL32 xs) ∧ Below W.heap.size W w') := fun W n => by
    obtain ⟨⟨g, r⟩, b, p, q, l⟩ := h2.up n
    exact specHash_L W g a' c' xs r b p (by omega)
  have FM := fun W a0 c0 (h0 : Lq W a0 c0 (labA (eaA ks) lbB hE 32)) a1 c1 (h : Lq W a1 c1 (hashL32 xs)) => hide (specFinishedMac_any W h0 h)
  clear EB EL LF h1 h2
  have KK : Hid (ks.length = 32 ∨ ks.length = 0) := h
  clear h
  generalize labA (eaA ks) lbB hE 32 = ls at *
  generalize hE = hh at *
  generalize hashL32 xs = sx at *
  generalize eaA ks = ee at *
  generalize fmA ls sx = ys at *
  unfold lbB at DE
  generalize xs.length = m' at *
  have go : ∀ (m : Nat), m = ks.length → m = ks.length := fun _ h => h
  obtain ⟨m, hm⟩ : ∃ m, m = ks.length := ⟨_, rfl⟩
  rw [← hm] at ES KK
  rw [← hm]
  clear hm go
  have tt : Hid (((m : Int) != 32) = false ∨ ((m : Int) != 32) = true ∧ ((m : Int) != 0) = false) := by
    show _ ∨ _
    rcases KK.out with h | h
    · left
      rw [h]
      rfl
    · right
      rw [h]
      exact ⟨rfl, rfl⟩
  clear KK
  rcases tt.out with t | ⟨t, t'⟩
  all_goals
    clear tt
    go_enter Tryd.func32, Tryd.ntmps32
    go_wp2_with fail
    refine ES.out.mono ?_
    rintro e w2 ⟨⟨a2, c2, g2, rfl, o2, p2, q2, r2⟩, n2⟩
    have L2 := EQ w2 a2 c2 g2 o2 p2 q2
    have NO2 := NO w2
    clear EQ NO o2 p2 q2
    go_wp2_with fail
    refine NO2.out.mono ?_
    rintro e w3 ⟨⟨a3, c3, g3, rfl, o3, p3, q3, r3⟩, n3⟩
    have D := DE w3 a2 c2 (L2.out.up n3) a3 c3 (HQ w3 a3 c3 g3 o3 p3 q3).out
    have N3 := nxt n2 n3
    clear DE HQ L2 NO2 o3 p3 q3
    go_wp2_with fail
    refine D.out.mono ?_
    rintro e w4 ⟨⟨a4, c4, g4, rfl, o4, p4, q4, r4⟩, n4⟩
    have L4 := LQ w4 a4 c4 g4 o4 p4 q4
    have N4 := nxt N3 n4
    have H4 := HA w4 N4
    clear LQ HA o4 p4 q4 D
    go_wp2_with fail
    refine H4.out.mono ?_
    rintro e w5 ⟨⟨a5, c5, g5, rfl, o5, p5, q5, r5⟩, n5⟩
    have N5 := nxt N4 n5
    have M := FM w5 a4 c4 (L4.out.up n5) a5 c5 (SQ w5 a5 c5 g5 o5 p5 q5).out
    clear FM SQ L4 o5 p5 q5 H4
    go_wp2_with fail
    refine M.out.mono ?_
    rintro e w6 ⟨⟨a6, c6, g6, rfl, o6, p6, q6, r6⟩, n6⟩
    have z := N5.size
    go_wp2
    go_ret
    exact ⟨⟨a6, c6, g6, rfl, o6, p6, q6, by omega⟩, nxt N5 n6⟩
end Go.Proofs.YtnfciobpfiibcaaDoor

/-
  The law of TicketSecret (written by gens/lexs.py).
-/
namespace Go.Proofs.YtnfciobpfiibcaaDoor
set_option maxRecDepth 100000
open Go Go.RowKit

theorem laid_tkK {W : World} (h : laidMetH Tryd.prog Rows.fnExactTicketSecretRow.laid W) : HasH W := ⟨start_of (reads_ofH h (by kernel_rfl) (.head _)), steps_of (reads_ofH h (by kernel_rfl) (.tail _ (.head _)))⟩
set_option maxHeartbeats 4000000 in
theorem tk_lawK (w : World) (g0 : Nat) (a0 : Option Addr) (c0 : Nat) (X0 : List Int) (hX0 : Rd w g0 a0 .u8 X0) (bX0 : Byt X0) (g1 : Nat) (a1 : Option Addr) (c1 : Nat) (X1 : List Int) (hX1 : Rd w g1 a1 .u8 X1) (bX1 : Byt X1) (hL : HasH w) :
    Calls Tryd.prog 6 #[.slice a0 X0.length c0, .slice a1 X1.length c1] w fun e w' => e = .returned (.bool true) ∧ Below w.heap.size w w' := by
  by_cases q0 : X0.length ≤ 1048576
  · have u0 : decide ((1048576 : Int) < (X0.length : Int)) = false := by simp; omega
    by_cases q1 : X1.length ≤ 1048576
    · have u1 : decide ((1048576 : Int) < (X1.length : Int)) = false := by simp; omega
      have SP := fun W g a c h (p : a = none → c = 0) (q : X0.length ≤ c) g' a' c' h' (p' : a' = none → c' = 0) (q' : X1.length ≤ c') => specTicketSecret_any W (a := a) (c := c) (a' := a') (c' := c') ⟨⟨g, h⟩, bX0, p, q, q0⟩ ⟨⟨g', h'⟩, bX1, p', q', q1⟩
      have IM := fun W g a c h (p : a = none → c = 0) (q : X0.length ≤ c) g' a' c' h' (p' : a' = none → c' = 0) (q' : X1.length ≤ c') (n : Below w.heap.size w W) => implTicketSecret_any W (hL.up n) (a := a) (c := c) (a' := a') (c' := c') ⟨⟨g, h⟩, bX0, p, q, q0⟩ ⟨⟨g', h'⟩, bX1, p', q', q1⟩
      have hy : (tkA X0 X1).length ≤ 1048576 := by unfold tkA; split; exact Nat.le_trans (labA_len _ _ _ _) (by decide); simp
      obtain ⟨ys, hys⟩ : ∃ ys, ys = tkA X0 X1 := ⟨_, rfl⟩
      simp only [← hys] at SP IM hy
      clear hys
      go_enter Tryd.func6, Tryd.ntmps6
      have N : Below w.heap.size w w := Below.refl _ _
      go_wp2_with fail
      refine (toByteS_any w g0 a0 c0 X0 (hX0.up N) q0).mono ?_
      rintro e w1 ⟨rfl, A0, m1⟩
      have zm1 := m1.size
      have lA0 := A0.lt
      replace N := nxt N m1
      clear m1
      go_wp2_with fail
      refine (toByteS_any w1 g1 a1 c1 X1 (hX1.up N) q1).mono ?_
      rintro e w2 ⟨rfl, A1, m2⟩
      have zm2 := m2.size
      have lA1 := A1.lt
      replace A0 := A0.up m2
      replace N := nxt N m2
      clear m2
      go_wp2_with fail
      refine (SP w2 _ _ _ A0.own0.rd (by simp) (Nat.le_refl _) _ _ _ A1.own0.rd (by simp) (Nat.le_refl _)).mono ?_
      rintro e w3 ⟨⟨aoS, coS, goS, rfl, oS, poS, koS, roS⟩, m3⟩
      have zm3 := m3.size
      have loS := oS.rd.lt
      clear poS koS
      replace A0 := A0.up m3
      replace A1 := A1.up m3
      replace N := nxt N m3
      clear m3
      clear A0 A1
      go_wp2_with fail
      refine (toByteS_any w3 g0 a0 c0 X0 (hX0.up N) q0).mono ?_
      rintro e w4 ⟨rfl, B0, m4⟩
      have zm4 := m4.size
      have lB0 := B0.lt
      replace oS := oS.up m4
      replace N := nxt N m4
      clear m4
      go_wp2_with fail
      refine (toByteS_any w4 g1 a1 c1 X1 (hX1.up N) q1).mono ?_
      rintro e w5 ⟨rfl, B1, m5⟩
      have zm5 := m5.size
      have lB1 := B1.lt
      replace oS := oS.up m5
      replace B0 := B0.up m5
      replace N := nxt N m5
      clear m5
      go_wp2_with fail
      refine (IM w5 _ _ _ B0.own0.rd (by simp) (Nat.le_refl _) _ _ _ B1.own0.rd (by simp) (Nat.le_refl _) N).mono ?_
      rintro e w6 ⟨⟨aoI, coI, goI, rfl, oI, poI, koI, roI⟩, m6⟩
      have zm6 := m6.size
      have loI := oI.rd.lt
      clear poI koI
      replace oS := oS.up m6
      replace B0 := B0.up m6
      replace B1 := B1.up m6
      replace N := nxt N m6
      clear m6
      go_wp2_with fail
      refine (eqByteS_same w6 _ _ _ _ _ _ ys oI.rd oS.rd hy).mono ?_
      rintro e w7 ⟨rfl, m7⟩
      have zm7 := m7.size
      replace oS := oS.up m7
      replace B0 := B0.up m7
      replace B1 := B1.up m7
      replace oI := oI.up m7
      replace N := nxt N m7
      clear m7
      go_wp2_with fail
      refine (toByteS_any w7 g0 a0 c0 X0 (hX0.up N) q0).mono ?_
      rintro e w8 ⟨rfl, E0, m8⟩
      have zm8 := m8.size
      have lE0 := E0.lt
      replace oS := oS.up m8
      replace B0 := B0.up m8
      replace B1 := B1.up m8
      replace oI := oI.up m8
      replace N := nxt N m8
      clear m8
      go_wp2_with fail
      refine (eqByteS_same w8 _ _ _ _ _ _ X0 B0.own0.rd E0.own0.rd q0).mono ?_
      rintro e w9 ⟨rfl, m9⟩
      have zm9 := m9.size
      replace oS := oS.up m9
      replace B0 := B0.up m9
      replace B1 := B1.up m9
      replace oI := oI.up m9
      replace E0 := E0.up m9
      replace N := nxt N m9
      clear m9
      clear E0
      go_wp2_with fail
      refine (toByteS_any w9 g1 a1 c1 X1 (hX1.up N) q1).mono ?_
      rintro e w10 ⟨rfl, E1, m10⟩
      have zm10 := m10.size
      have lE1 := E1.lt
      replace oS := oS.up m10
      replace B0 := B0.up m10
      replace B1 := B1.up m10
      replace oI := oI.up m10
      replace N := nxt N m10
      clear m10
      go_wp2_with fail
      refine (eqByteS_same w10 _ _ _ _ _ _ X1 B1.own0.rd E1.own0.rd q1).mono ?_
      rintro e w11 ⟨rfl, m11⟩
      have zm11 := m11.size
      replace oS := oS.up m11
      replace B0 := B0.up m11
      replace B1 := B1.up m11
      replace oI := oI.up m11
      replace E1 := E1.up m11
      replace N := nxt N m11
      clear m11
      clear E1
      go_wp2_with fail
      refine (markByteS_any w11 _ _ _ X0 (1) B0.own0 q0 (by omega) (by omega)).mono ?_
      rintro e w12 ⟨rfl, _, O0⟩
      replace oS := oS.only O0 (fun h => by have := loS h; omega)
      replace B1 := B1.of_block (O0.block _ (by omega))
      replace oI := oI.only O0 (fun h => by have := loI h; omega)
      replace N := N.trans (O0.below (B := w.heap.size) (by omega))
      have y0 := O0.size
      have zm12 : w11.heap.size ≤ w12.heap.size := Nat.le_of_eq y0.symm
      clear y0 O0 B0
      go_wp2_with fail
      refine (markByteS_any w12 _ _ _ X1 (1 + (X0.length : Int)) B1.own0 q1 (by omega) (by omega)).mono ?_
      rintro e w13 ⟨rfl, _, O1⟩
      replace oS := oS.only O1 (fun h => by have := loS h; omega)
      replace oI := oI.only O1 (fun h => by have := loI h; omega)
      replace N := N.trans (O1.below (B := w.heap.size) (by omega))
      have y1 := O1.size
      have zm13 : w12.heap.size ≤ w13.heap.size := Nat.le_of_eq y1.symm
      clear y1 O1 B1
      have v1 : decide (1 + (X0.length : Int) + (X1.length : Int) < 0) = false := by simp; omega
      go_wp2_with fail
      refine (eqByteS_same w13 _ _ _ _ _ _ ys oI.rd oS.rd hy).mono ?_
      rintro e w14 ⟨rfl, m14⟩
      have zm14 := m14.size
      replace oS := oS.up m14
      replace oI := oI.up m14
      replace N := nxt N m14
      clear m14
      go_wp2_with fail
      refine (markByteS_any w14 _ _ _ ys 1 oI hy (by decide) (by decide)).mono ?_
      rintro e w15 ⟨rfl, oA, OA⟩
      replace N := N.trans (OA.below (B := w.heap.size) (by omega))
      replace oS := oS.only OA (fun h => by have := loS h; omega)
      have v2 : decide ((1 : Int) + (ys.length : Int) < 0) = false := by simp; omega
      clear oI OA
      go_wp2_with fail
      refine (heldByteS_any w15 _ _ _ ys.length 1 oA.rd hy (by decide) (by decide)).mono ?_
      rintro e w16 ⟨rfl, rfl⟩
      clear loI lB0 lB1
      go_wp2_with fail
      refine (toByteS_any w16 g0 a0 c0 X0 (hX0.up N) q0).mono ?_
      rintro e w17 ⟨rfl, D0, m17⟩
      have zm17 := m17.size
      have lD0 := D0.lt
      replace oS := oS.up m17
      replace oA := oA.up m17
      replace N := nxt N m17
      clear m17
      go_wp2_with fail
      refine (toByteS_any w17 g1 a1 c1 X1 (hX1.up N) q1).mono ?_
      rintro e w18 ⟨rfl, D1, m18⟩
      have zm18 := m18.size
      have lD1 := D1.lt
      replace oS := oS.up m18
      replace oA := oA.up m18
      replace D0 := D0.up m18
      replace N := nxt N m18
      clear m18
      go_wp2_with fail
      refine (IM w18 _ _ _ D0.own0.rd (by simp) (Nat.le_refl _) _ _ _ D1.own0.rd (by simp) (Nat.le_refl _) N).mono ?_
      rintro e w19 ⟨⟨aoJ, coJ, goJ, rfl, oJ, poJ, koJ, roJ⟩, m19⟩
      have zm19 := m19.size
      have loJ := oJ.rd.lt
      clear poJ koJ
      replace oS := oS.up m19
      replace oA := oA.up m19
      replace D0 := D0.up m19
      replace D1 := D1.up m19
      replace N := nxt N m19
      clear m19
      go_wp2_with fail
      refine (eqByteS_same w19 _ _ _ _ _ _ ys oJ.rd oS.rd hy).mono ?_
      rintro e w20 ⟨rfl, m20⟩
      have zm20 := m20.size
      replace oS := oS.up m20
      replace oA := oA.up m20
      replace D0 := D0.up m20
      replace D1 := D1.up m20
      replace oJ := oJ.up m20
      replace N := nxt N m20
      clear m20
      go_wp2_with fail
      refine (heldByteS_any w20 _ _ _ ys.length 1 oA.rd hy (by decide) (by decide)).mono ?_
      rintro e w21 ⟨rfl, rfl⟩
      go_wp2
      go_ret
      exact ⟨rfl, N⟩
    · have u1 : decide ((1048576 : Int) < (X1.length : Int)) = true := by simp; omega
      go_enter Tryd.func6, Tryd.ntmps6
      go_wp2
      go_ret
      exact ⟨rfl, Below.refl _ _⟩
  · have u0 : decide ((1048576 : Int) < (X0.length : Int)) = true := by simp; omega
    go_enter Tryd.func6, Tryd.ntmps6
    go_wp2
    go_ret
    exact ⟨rfl, Below.refl _ _⟩
end Go.Proofs.YtnfciobpfiibcaaDoor
