import Derived.Test.YtnfciobpfiibcaaDoorXlB
import Derived.Test.YtnfciobpfiibcaaDoorXcS
import Derived.Test.YtnfciobpfiibcaaDoorRows
import Derived.Test.YtnfciobpfiibcaaDoorHsT
import Derived.Lib.LaidTab
import Derived.Lib.LaidU8
import Derived.LaidMore
import Derived.Test.YtnfciobpfiibcaaDoorHq32
import Derived.Test.YtnfciobpfiibcaaDoorHelp
import Derived.Test.YtnfciobpfiibcaaDoorRegF

/-
  ExpandLabel and Derive: the program's and the model's.
-/
namespace Go.Proofs.YtnfciobpfiibcaaDoor
set_option maxRecDepth 100000
open Go Go.RowKit

/-- The whole answer. -/
def labA (ks : List Int) (s : ByteArray) (ctx : List Int) (n : Int) : List Int := if (s.size ≤ 200 ∧ ctx.length ≤ 255) ∧ 0 ≤ n ∧ n ≤ 8160 then expL ks (infoL s ctx n.toNat) n.toNat else []
theorem labA_len (ks : List Int) (s : ByteArray) (ctx : List Int) (n : Int) : (labA ks s ctx n).length ≤ 8160 := by
  unfold labA
  split
  · rw [expL_len]; omega
  · simp
set_option maxHeartbeats 4000000 in
theorem implLabel_any (w : World) (g : Nat) (a : Option Addr) (c : Nat) (ks : List Int) (hr : Rd w g a .u8 ks) (hk : Byt ks) (hc : ks.length ≤ c) (hn : ks.length ≤ 1048576) (s : ByteArray) (hss : s.size ≤ 1048576) (gd : Nat) (ad : Option Addr) (cd : Nat) (ctx : List Int) (hd : Rd w gd ad .u8 ctx) (hx : Byt ctx) (hcd : ad = none → cd = 0) (hnd : ctx.length ≤ 1048576) (n : Int)
    (hS : HasT w 0 stLh) (hT : HasT w 1 kL) :
    Calls Tryd.prog 62 #[.slice a ks.length c, .string s, .slice ad ctx.length cd, .int .i64 n] w fun e w' => NewRow w.heap.size w' e .u8 (labA ks s ctx n) ∧ Below w.heap.size w w' := by
  have IE := fun W => hide (isExpandable_any W n)
  by_cases c1 : s.size ≤ 200
  · have t1 : decide ((200 : Int) < (s.size : Int)) = false := by simp; omega
    by_cases c2 : ctx.length ≤ 255
    · have t2 : decide ((255 : Int) < (ctx.length : Int)) = false := by simp; omega
      by_cases hin : 0 ≤ n ∧ n ≤ 8160
      · have t0 : decide (0 ≤ n ∧ n ≤ 8160) = true := decide_eq_true hin
        rw [t0] at IE
        obtain ⟨N, rfl⟩ := Int.eq_ofNat_of_zero_le hin.1
        have hN : N ≤ 8160 := by omega
        have NK := hide (newKeyed_any w g a c ks hr hk hc (by omega) hS hT)
        have LI := hide (fun W (b : Below w.heap.size w W) => labelInfo_any W s c1 gd ad cd ctx (hd.up b) c2 hcd N hN)
        have IB := infoL_byt (N := N) c1 hx c2 hN
        have IL := infoL_len s ctx N
        have ED := hide (fun W v1 v2 g' a' c' (h' : Rd W g' a' .u8 (infoL s ctx N)) (p' : (infoL s ctx N).length ≤ c') (b : Below w.heap.size w W) (V1 : HV v1 (maskL (keyL ks) 54)) (V2 : HV v2 (maskL (keyL ks) 92)) => expandD W v1 v2 _ _ (infoL s ctx N) V1 V2 g' a' c' h' IB p' N hN (by rw [maskL_len]; omega) (by rw [maskL_len]; omega) (hT.up b))
        obtain ⟨rs, hrs⟩ : ∃ l, l = labA ks s ctx (N : Int) := ⟨_, rfl⟩
        have HR : Hid (tG (maskL (keyL ks) 54) (maskL (keyL ks) 92) (infoL s ctx N) N ((N + 31) / 32) = rs) := by
          show _ = _
          rw [hrs, tG_exp]
          unfold labA
          rw [if_pos ⟨⟨c1, c2⟩, hin⟩]
          rfl
        rw [← hrs]
        clear hrs hin t0 IL
        rw [HR.out] at ED
        generalize infoL s ctx N = inf at *
        go_enter Tryd.func62, Tryd.ntmps62
        go_wp2_with fail
        refine (IE w).out.mono ?_
        rintro r w0 ⟨rfl, rfl⟩
        go_wp2_with fail
        refine NK.out.mono ?_
        rintro r w1 ⟨⟨v1, v2, rfl, V1, V2⟩, n1⟩
        have ED1 := hide (fun W g' a' c' h' p' b => ED.out W v1 v2 g' a' c' h' p' b V1 V2)
        clear ED NK V1 V2
        generalize v1 ++ v2 = vs at *
        go_wp2_with fail
        refine (LI.out w1 n1).mono ?_
        rintro r w2 ⟨⟨a2, c2', g2, rfl, o2, p2, q2, r2⟩, n2⟩
        have N2 := nxt n1 n2
        go_wp2_with fail
        refine (ED1.out w2 g2 a2 c2' o2.rd q2 N2).mono ?_
        rintro r w3 ⟨⟨a3, c3, g3, rfl, o3, p3, q3, r3⟩, n3⟩
        have y1 := N2.size
        go_wp2
        go_ret
        exact ⟨⟨a3, c3, g3, rfl, o3, p3, q3, by omega⟩, nxt N2 n3⟩
      · have t0 : decide (0 ≤ n ∧ n ≤ 8160) = false := decide_eq_false hin
        rw [t0] at IE
        have e : labA ks s ctx n = [] := by unfold labA; rw [if_neg (fun h => hin h.2)]
        rw [e]
        go_enter Tryd.func62, Tryd.ntmps62
        go_wp2_with fail
        refine (IE w).out.mono ?_
        rintro r w0 ⟨rfl, rfl⟩
        go_wp2
        go_ret
        exact ⟨newRow_z _ _, Below.refl _ _⟩
    · have t2 : decide ((255 : Int) < (ctx.length : Int)) = true := by simp; omega
      have e : labA ks s ctx n = [] := by unfold labA; rw [if_neg (fun h => c2 h.1.2)]
      rw [e]
      go_enter Tryd.func62, Tryd.ntmps62
      go_wp2
      go_ret
      exact ⟨newRow_z _ _, Below.refl _ _⟩
  · have t1 : decide ((200 : Int) < (s.size : Int)) = true := by simp; omega
    have e : labA ks s ctx n = [] := by unfold labA; rw [if_neg (fun h => c1 h.1.1)]
    rw [e]
    go_enter Tryd.func62, Tryd.ntmps62
    go_wp2
    go_ret
    exact ⟨newRow_z _ _, Below.refl _ _⟩
set_option maxHeartbeats 4000000 in
theorem specLabel_any (w : World) (g : Nat) (a : Option Addr) (c : Nat) (ks : List Int) (hr : Rd w g a .u8 ks) (hk : Byt ks) (hc : a = none → c = 0) (hn : ks.length ≤ 1048576) (s : ByteArray) (hss : s.size ≤ 1048576) (gd : Nat) (ad : Option Addr) (cd : Nat) (ctx : List Int) (hd : Rd w gd ad .u8 ctx) (hx : Byt ctx) (hcd : ad = none → cd = 0) (hnd : ctx.length ≤ 1048576) (n : Int) :
    Calls Tryd.prog 39 #[.slice a ks.length c, .string s, .slice ad ctx.length cd, .int .i64 n] w fun e w' => NewRow w.heap.size w' e .u8 (labA ks s ctx n) ∧ Below w.heap.size w w' := by
  have hal : Below w.heap.size w (w.alloc (.cells #[] 5)) := (Below.refl _ _).alloc (Nat.le_refl _) _
  by_cases c1 : s.size ≤ 200
  · have t1 : decide ((200 : Int) < (s.size : Int)) = false := by simp; omega
    by_cases c2 : ctx.length ≤ 255
    · have t2 : decide ((255 : Int) < (ctx.length : Int)) = false := by simp; omega
      by_cases c3 : 0 ≤ n
      · have t3 : decide (n < 0) = false := by simp; omega
        by_cases c4 : n ≤ 8160
        · have t4 : decide (8160 < n) = false := by simp; omega
          obtain ⟨N, rfl⟩ := Int.eq_ofNat_of_zero_le c3
          have hN : N ≤ 8160 := by omega
          have LI := hide (l7Label_any w s c1 gd ad cd ctx hd c2 hcd N hN)
          have IB := infoL_byt (N := N) c1 hx c2 hN
          have IL := infoL_len s ctx N
          obtain ⟨rs, hrs⟩ : ∃ l, l = labA ks s ctx (N : Int) := ⟨_, rfl⟩
          have HR : Hid (expA ks (infoL s ctx N) (N : Int) = rs) := by
            show _ = _
            rw [hrs, expA_of _ _ hN]
            unfold labA
            rw [if_pos ⟨⟨c1, c2⟩, by omega⟩]
            rfl
          rw [← hrs]
          clear hrs
          have ILH : (infoL s ctx N).length ≤ 1048576 := by omega
          clear IL
          generalize infoL s ctx N = inf at *
          go_enter Tryd.func39, Tryd.ntmps39
          go_wp2_with fail
          refine LI.out.mono ?_
          rintro r w1 ⟨⟨a2, c2', g2, rfl, o2, p2, q2, r2⟩, n1⟩
          have SE := specExpand_any w1 g a c ks (hr.up n1) hk hc hn g2 a2 c2' inf o2.rd IB p2 ILH (N : Int)
          rw [HR.out] at SE
          have SH := hide SE
          clear SE LI
          go_wp2_with fail
          refine SH.out.mono ?_
          rintro r w3 ⟨⟨a3, c3, g3, rfl, o3, p3, q3, r3⟩, n3⟩
          have y1 := n1.size
          go_wp2
          go_ret
          exact ⟨⟨a3, c3, g3, rfl, o3, p3, q3, by omega⟩, nxt n1 n3⟩
        · have t4 : decide (8160 < n) = true := by simp; omega
          have e : labA ks s ctx n = [] := by unfold labA; rw [if_neg (fun h => c4 h.2.2)]
          rw [e]
          go_enter Tryd.func39, Tryd.ntmps39
          go_wp2
          go_ret
          exact ⟨newRow_e _ _, hal⟩
      · have t3 : decide (n < 0) = true := by simp; omega
        have e : labA ks s ctx n = [] := by unfold labA; rw [if_neg (fun h => c3 h.2.1)]
        rw [e]
        go_enter Tryd.func39, Tryd.ntmps39
        go_wp2
        go_ret
        exact ⟨newRow_e _ _, hal⟩
    · have t2 : decide ((255 : Int) < (ctx.length : Int)) = true := by simp; omega
      have e : labA ks s ctx n = [] := by unfold labA; rw [if_neg (fun h => c2 h.1.2)]
      rw [e]
      go_enter Tryd.func39, Tryd.ntmps39
      go_wp2
      go_ret
      exact ⟨newRow_e _ _, hal⟩
  · have t1 : decide ((200 : Int) < (s.size : Int)) = true := by simp; omega
    have e : labA ks s ctx n = [] := by unfold labA; rw [if_neg (fun h => c1 h.1.1)]
    rw [e]
    go_enter Tryd.func39, Tryd.ntmps39
    go_wp2
    go_ret
    exact ⟨newRow_e _ _, hal⟩
set_option maxHeartbeats 400000 in
theorem implDerive_any (w : World) (g : Nat) (a : Option Addr) (c : Nat) (ks : List Int) (hr : Rd w g a .u8 ks) (hk : Byt ks) (hc : ks.length ≤ c) (hn : ks.length ≤ 1048576) (s : ByteArray) (hss : s.size ≤ 1048576) (gd : Nat) (ad : Option Addr) (cd : Nat) (ctx : List Int) (hd : Rd w gd ad .u8 ctx) (hx : Byt ctx) (hcd : ad = none → cd = 0) (hnd : ctx.length ≤ 1048576)
    (hS : HasT w 0 stLh) (hT : HasT w 1 kL) :
    Calls Tryd.prog 79 #[.slice a ks.length c, .string s, .slice ad ctx.length cd] w fun e w' => NewRow w.heap.size w' e .u8 (labA ks s ctx 32) ∧ Below w.heap.size w w' := by
  have M := hide (implLabel_any w g a c ks hr hk hc hn s hss gd ad cd ctx hd hx hcd hnd 32 hS hT)
  obtain ⟨rs, hrs⟩ : ∃ l, l = labA ks s ctx 32 := ⟨_, rfl⟩
  rw [← hrs] at M ⊢
  clear hrs
  go_enter Tryd.func79, Tryd.ntmps79
  go_wp2_with fail
  refine M.out.mono ?_
  rintro r w1 ⟨⟨a1, c1, g1, rfl, o1, p1, q1, r1⟩, n1⟩
  go_wp2
  go_ret
  exact ⟨⟨a1, c1, g1, rfl, o1, p1, q1, r1⟩, n1⟩
set_option maxHeartbeats 400000 in
theorem specDerive_any (w : World) (g : Nat) (a : Option Addr) (c : Nat) (ks : List Int) (hr : Rd w g a .u8 ks) (hk : Byt ks) (hc : a = none → c = 0) (hn : ks.length ≤ 1048576) (s : ByteArray) (hss : s.size ≤ 1048576) (gd : Nat) (ad : Option Addr) (cd : Nat) (ctx : List Int) (hd : Rd w gd ad .u8 ctx) (hx : Byt ctx) (hcd : ad = none → cd = 0) (hnd : ctx.length ≤ 1048576) :
    Calls Tryd.prog 47 #[.slice a ks.length c, .string s, .slice ad ctx.length cd] w fun e w' => NewRow w.heap.size w' e .u8 (labA ks s ctx 32) ∧ Below w.heap.size w w' := by
  have M := hide (specLabel_any w g a c ks hr hk hc hn s hss gd ad cd ctx hd hx hcd hnd 32)
  obtain ⟨rs, hrs⟩ : ∃ l, l = labA ks s ctx 32 := ⟨_, rfl⟩
  rw [← hrs] at M ⊢
  clear hrs
  go_enter Tryd.func47, Tryd.ntmps47
  go_wp2_with fail
  refine M.out.mono ?_
  rintro r w1 ⟨⟨a1, c1, g1, rfl, o1, p1, q1, r1⟩, n1⟩
  go_wp2
  go_ret
  exact ⟨⟨a1, c1, g1, rfl, o1, p1, q1, r1⟩, n1⟩
end Go.Proofs.YtnfciobpfiibcaaDoor

/-
  What the listed words give the walks of the hashes (written by gens/lhash.py).
-/
namespace Go.Proofs.YtnfciobpfiibcaaDoor
set_option maxRecDepth 100000
open Go.RowKit

theorem gSth : Tryd.prog.globalNamed "loop.example/g00004/impl.startWords" = some 0 := by kernel_rfl
theorem tSth : (Tryd.prog.globals[0]?).map (·.type) = some 68 := by kernel_rfl
theorem gSp : Tryd.prog.globalNamed "loop.example/g00004/impl.stepWords" = some 1 := by kernel_rfl
theorem tSp : (Tryd.prog.globals[1]?).map (·.type) = some 88 := by kernel_rfl
theorem uSt : Tryd.prog.underlying 68 = some (.array 8 67) := by kernel_rfl
theorem uSp : Tryd.prog.underlying 88 = some (.array 80 67) := by kernel_rfl
theorem cSt : Tryd.prog.cellsOf 68 = 8 := by kernel_rfl
theorem cSp : Tryd.prog.cellsOf 88 = 80 := by kernel_rfl
theorem cUw : Tryd.prog.cellsOf 67 = 1 := by kernel_rfl
theorem uUw : Tryd.prog.underlying 67 = some (.int .u64) := by kernel_rfl
theorem hasT_of {W : World} {n : String} {g : Nat} {ty : TypeId} {N : Nat} {l : List Int} (hn : Tryd.prog.globalNamed n = some g) (ht : (Tryd.prog.globals[g]?).map (·.type) = some ty) (hu : Tryd.prog.underlying ty = some (.array N 67)) (hc : Tryd.prog.cellsOf ty = N)
    (h : Lib.VarReads Tryd.prog W n (.agg (l.map fun x => .lit (.int .u64 x)))) : HasT W g l := by
  obtain ⟨g', t, cs, fuel, p, hg, ht', hv, hd⟩ := h
  obtain rfl := Option.some.inj (hn.symm.trans hg)
  obtain rfl := Option.some.inj (ht.symm.trans ht')
  have hcs := Lib.cells_of_tab (zs := l) hu uUw cUw hc hd
  intro k hk
  rw [World.var?_cell hg hv k]
  obtain ⟨m⟩ := cs
  simp only at hcs
  subst hcs
  simp [hk]
theorem reads_ofH {l : List (String × DataW Unit)} {W : World} (h : laidMetH Tryd.prog l W) (hp : (l.all fun x => x.2.handleName?.isNone) = true) {n : String} {d : DataW Unit} (hm : (n, d) ∈ l) : Lib.VarReads Tryd.prog W n d := by
  rw [MakeChecks.laidMetH_plain _ _ _ hp] at h
  exact Lib.laidMet.reads h hm
theorem start_of {W : World} (h : Lib.VarReads Tryd.prog W "loop.example/g00004/impl.startWords" Rows.laid_loop_example_g00004_impl_startWords) : HasT W 0 stLh := hasT_of gSth tSth uSt cSt h
theorem steps_of {W : World} (h : Lib.VarReads Tryd.prog W "loop.example/g00004/impl.stepWords" Rows.laid_loop_example_g00004_impl_stepWords) : HasT W 1 kL := hasT_of gSp tSp uSp cSp h
def HasH (W : World) : Prop := HasT W 0 stLh ∧ HasT W 1 kL
theorem HasH.up {w w' : World} (h : HasH w) (n : Below w.heap.size w w') : HasH w' := ⟨h.1.up n, h.2.up n⟩
end Go.Proofs.YtnfciobpfiibcaaDoor

/-
  The steps of the program's schedule (written by gens/ksa.py).
-/
namespace Go.Proofs.YtnfciobpfiibcaaDoor
set_option maxRecDepth 100000
open Go Go.RowKit

theorem NewRow.low {B B' : Nat} {w : World} {e : Ending} {k : IntKind} {ys : List Int} (h : NewRow B w e k ys) (hb : B' ≤ B) : NewRow B' w e k ys := by
  obtain ⟨a, c, g, h1, h2, h3, h4, h5⟩ := h
  exact ⟨a, c, g, h1, h2, h3, h4, Nat.le_trans hb h5⟩
theorem labA_byt (ks : List Int) (s : ByteArray) (ctx : List Int) (n : Int) : Byt (labA ks s ctx n) := by
  unfold labA
  split
  · exact expL_byt _ _ _
  · intro i
    simp
theorem labA_full (ks : List Int) (s : ByteArray) (ctx : List Int) (n : Nat) (hs : s.size ≤ 200) (hc : ctx.length ≤ 255) (hn : n ≤ 8160) : (labA ks s ctx (n : Int)).length = n := by
  unfold labA
  rw [if_pos ⟨⟨hs, hc⟩, by omega⟩, expL_len]
  omega
theorem macL_len (ks xs : List Int) : (macL ks xs).length = 32 := by unfold macL; exact hash_len32 _
theorem macL_byt (ks xs : List Int) : Byt (macL ks xs) := by unfold macL; exact hash_byt32 _
/-- A list that may be read, as the calls take it. -/
structure Lq (w : World) (a : Option Addr) (c : Nat) (xs : List Int) : Prop where
  r : ∃ g, Rd w g a .u8 xs
  b : Byt xs
  p : a = none → c = 0
  q : xs.length ≤ c
  l : xs.length ≤ 1048576
theorem Lq.up {w w' : World} {a : Option Addr} {c : Nat} {xs : List Int} (h : Lq w a c xs) (n : Below w.heap.size w w') : Lq w' a c xs := by
  obtain ⟨⟨g, r⟩, b, p, q, l⟩ := h
  exact ⟨⟨g, r.up n⟩, b, p, q, l⟩
theorem Lq.nil (w : World) : Lq w none 0 [] := ⟨⟨0, Rd.nil _ _ _ _⟩, byt_nil, fun _ => rfl, Nat.le_refl _, by simp⟩
theorem Lq.of {w : World} {a : Option Addr} {c g : Nat} {ys : List Int} (o : Own w g a .u8 ys) (p : a = none → c = 0) (q : ys.length ≤ c) (b : Byt ys) (l : ys.length ≤ 1048576) : Lq w a c ys := ⟨⟨g, o.rd⟩, b, p, q, l⟩
def lbD : ByteArray := ⟨#[100, 101, 114, 105, 118, 101, 100]⟩
def lbB : ByteArray := ⟨#[98, 105, 110, 100, 101, 114]⟩
def lbF : ByteArray := ⟨#[102, 105, 110, 105, 115, 104, 101, 100]⟩
def lbU : ByteArray := ⟨#[117, 112, 100, 97, 116, 101]⟩
def lbT : ByteArray := ⟨#[116, 105, 99, 107, 101, 116]⟩
def lbK : ByteArray := ⟨#[107, 101, 121]⟩
def lbI : ByteArray := ⟨#[105, 118]⟩
/-- The hash of nothing. -/
def hE : List Int := hashL32 []
theorem hE_len : hE.length = 32 := hash_len32 _
theorem hE_byt : Byt hE := hash_byt32 _
/-- The box of a schedule. -/
def bx (w : World) (x y : Value) : World := w.alloc (.cells #[x, y] 36)
theorem bx_up (w : World) (x y : Value) : Below w.heap.size w (bx w x y) := (Below.refl _ _).alloc (Nat.le_refl _) _

set_option maxHeartbeats 1000000 in
theorem sExtract_any (w : World) (hH : HasH w) {a a' : Option Addr} {c c' : Nat} {ks xs : List Int} (h1 : Lq w a c ks) (h2 : Lq w a' c' xs) :
    Calls Tryd.prog 38 #[.agg #[.slice a ks.length c, .slice a' xs.length c']] w fun e w' => NewRow w.heap.size w' e .u8 (macL ks xs) ∧ Below w.heap.size w w' := by
  have n1 := bx_up w (.slice a ks.length c) (.slice a' xs.length c')
  obtain ⟨⟨g, r⟩, b, p, q, l⟩ := h1
  obtain ⟨⟨g', r'⟩, b', p', q', l'⟩ := h2
  have C := hide (implExtract_any _ g a c ks (r.up n1) b q l g' a' c' xs (r'.up n1) b' q' (by omega) (hH.1.up n1) (hH.2.up n1))
  have N1 := hide n1
  clear r b p q l r' b' p' q' l' n1 hH
  unfold bx at C N1
  generalize macL ks xs = ys at *
  generalize ks.length = m at *
  generalize xs.length = m' at *
  go_enter Tryd.func38, Tryd.ntmps38
  go_wp2_with fail
  refine C.out.mono ?_
  rintro e w1 ⟨⟨a3, c3, g3, rfl, o3, p3, q3, r3⟩, n⟩
  have z1 := N1.out.size
  go_wp2
  go_ret
  exact ⟨⟨a3, c3, g3, rfl, o3, p3, q3, by omega⟩, nxt N1.out n⟩
set_option maxHeartbeats 1000000 in
theorem sTicket_any (w : World) (hH : HasH w) {a a' : Option Addr} {c c' : Nat} {ks xs : List Int} (h1 : Lq w a c ks) (h2 : Lq w a' c' xs) :
    Calls Tryd.prog 44 #[.agg #[.slice a ks.length c, .slice a' xs.length c']] w fun e w' => NewRow w.heap.size w' e .u8 (labA ks lbT xs 32) ∧ Below w.heap.size w w' := by
  have n1 := bx_up w (.slice a ks.length c) (.slice a' xs.length c')
  obtain ⟨⟨g, r⟩, b, p, q, l⟩ := h1
  obtain ⟨⟨g', r'⟩, b', p', q', l'⟩ := h2
  have C := hide (implLabel_any _ g a c ks (r.up n1) b q l lbT (by decide) g' a' c' xs (r'.up n1) b' p' l' 32 (hH.1.up n1) (hH.2.up n1))
  have N1 := hide n1
  clear r b p q l r' b' p' q' l' n1 hH
  unfold bx at C N1
  generalize labA ks lbT xs 32 = ys at *
  unfold lbT at C
  generalize ks.length = m at *
  generalize xs.length = m' at *
  go_enter Tryd.func44, Tryd.ntmps44
  go_wp2_with fail
  refine C.out.mono ?_
  rintro e w1 ⟨⟨a3, c3, g3, rfl, o3, p3, q3, r3⟩, n⟩
  have z1 := N1.out.size
  go_wp2
  go_ret
  exact ⟨⟨a3, c3, g3, rfl, o3, p3, q3, by omega⟩, nxt N1.out n⟩
set_option maxHeartbeats 1000000 in
theorem sExpand_any (w : World) (hH : HasH w) {a : Option Addr} {c : Nat} {ks : List Int} (x : Value) (s : ByteArray) (hs : s.size ≤ 1048576) (n : Int) (h1 : Lq w a c ks) :
    Calls Tryd.prog 58 #[.agg #[.slice a ks.length c, x], .string s, .int .i64 n] w fun e w' => NewRow w.heap.size w' e .u8 (labA ks s [] n) ∧ Below w.heap.size w w' := by
  have n1 := bx_up w (.slice a ks.length c) x
  obtain ⟨⟨g, r⟩, b, p, q, l⟩ := h1
  have C : Hid (Calls Tryd.prog 62 #[.slice a ks.length c, .string s, .slice none 0 0, .int .i64 n] (bx w (.slice a ks.length c) x) fun e w' => NewRow (bx w (.slice a ks.length c) x).heap.size w' e .u8 (labA ks s [] n) ∧ Below (bx w (.slice a ks.length c) x).heap.size (bx w (.slice a ks.length c) x) w') := (implLabel_any _ g a c ks (r.up n1) b q l s hs 0 none 0 [] (Rd.nil _ _ _ _) byt_nil (fun _ => rfl) (by simp) n (hH.1.up n1) (hH.2.up n1))
  have N1 := hide n1
  clear r b p q l n1 hH
  unfold bx at C N1
  generalize labA ks s [] n = ys at *
  generalize ks.length = m at *
  go_enter Tryd.func58, Tryd.ntmps58
  go_wp2_with fail
  refine C.out.mono ?_
  rintro e w1 ⟨⟨a3, c3, g3, rfl, o3, p3, q3, r3⟩, n⟩
  have z1 := N1.out.size
  go_wp2
  go_ret
  exact ⟨⟨a3, c3, g3, rfl, o3, p3, q3, by omega⟩, nxt N1.out n⟩
theorem rowSc : ∃ d, Tryd.prog.underlying 36 = some d ∧ d.isRow = true := ⟨_, Tryd.underlying36, rfl⟩
theorem iSc : (Tryd.prog.info? 36).map (·.size) = some 2 := by kernel_rfl
theorem bx_range (w : World) (x y : Value) : (bx w x y).rangeAt w.heap.size 0 [x, y] := fun j v hj => by
  have h : (bx w x y).heap[w.heap.size]? = some (.cells #[x, y] 36 (0, 0)) := by show (w.heap.push _)[w.heap.size]? = _; simp
  rw [Nat.zero_add, cell_of_row _ _ _ _ _ _ h]
  simpa using hj
set_option maxHeartbeats 1000000 in
theorem sUpdate_any (w : World) (hH : HasH w) {a : Option Addr} {c : Nat} {ks : List Int} (x : Value) (h1 : Lq w a c ks) :
    Calls Tryd.prog 40 #[.agg #[.slice a ks.length c, x]] w fun e w' => NewRow w.heap.size w' e .u8 (labA ks lbU [] 32) ∧ Below w.heap.size w w' := by
  have n1 := bx_up w (.slice a ks.length c) x
  have C := hide (sExpand_any _ (hH.up n1) x lbU (by decide) 32 (h1.up n1))
  have N1 := hide n1
  obtain ⟨d2, hd2, hrow2⟩ := rowSc
  have RG := hide (bx_range w (.slice a ks.length c) x)
  clear h1 n1 hH
  unfold bx at C N1 RG
  generalize labA ks lbU [] 32 = ys at *
  unfold lbU at C
  generalize ks.length = m at *
  go_enter Tryd.func40, Tryd.ntmps40
  go_wp2_with fail
  refine C.out.mono ?_
  rintro e w1 ⟨⟨a3, c3, g3, rfl, o3, p3, q3, r3⟩, n⟩
  have z1 := N1.out.size
  go_wp2
  go_ret
  exact ⟨⟨a3, c3, g3, rfl, o3, p3, q3, by omega⟩, nxt N1.out n⟩
set_option maxHeartbeats 1000000 in
theorem sKey_any (w : World) (hH : HasH w) {a : Option Addr} {c : Nat} {ks : List Int} (x : Value) (h1 : Lq w a c ks) :
    Calls Tryd.prog 45 #[.agg #[.slice a ks.length c, x]] w fun e w' => NewRow w.heap.size w' e .u8 (labA ks lbK [] 32) ∧ Below w.heap.size w w' := by
  have n1 := bx_up w (.slice a ks.length c) x
  have C := hide (sExpand_any _ (hH.up n1) x lbK (by decide) 32 (h1.up n1))
  have N1 := hide n1
  obtain ⟨d2, hd2, hrow2⟩ := rowSc
  have RG := hide (bx_range w (.slice a ks.length c) x)
  clear h1 n1 hH
  unfold bx at C N1 RG
  generalize labA ks lbK [] 32 = ys at *
  unfold lbK at C
  generalize ks.length = m at *
  go_enter Tryd.func45, Tryd.ntmps45
  go_wp2_with fail
  refine C.out.mono ?_
  rintro e w1 ⟨⟨a3, c3, g3, rfl, o3, p3, q3, r3⟩, n⟩
  have z1 := N1.out.size
  go_wp2
  go_ret
  exact ⟨⟨a3, c3, g3, rfl, o3, p3, q3, by omega⟩, nxt N1.out n⟩
set_option maxHeartbeats 1000000 in
theorem sIv_any (w : World) (hH : HasH w) {a : Option Addr} {c : Nat} {ks : List Int} (x : Value) (h1 : Lq w a c ks) :
    Calls Tryd.prog 46 #[.agg #[.slice a ks.length c, x]] w fun e w' => NewRow w.heap.size w' e .u8 (labA ks lbI [] 12) ∧ Below w.heap.size w w' := by
  have n1 := bx_up w (.slice a ks.length c) x
  have C := hide (sExpand_any _ (hH.up n1) x lbI (by decide) 12 (h1.up n1))
  have N1 := hide n1
  obtain ⟨d2, hd2, hrow2⟩ := rowSc
  have RG := hide (bx_range w (.slice a ks.length c) x)
  clear h1 n1 hH
  unfold bx at C N1 RG
  generalize labA ks lbI [] 12 = ys at *
  unfold lbI at C
  generalize ks.length = m at *
  go_enter Tryd.func46, Tryd.ntmps46
  go_wp2_with fail
  refine C.out.mono ?_
  rintro e w1 ⟨⟨a3, c3, g3, rfl, o3, p3, q3, r3⟩, n⟩
  have z1 := N1.out.size
  go_wp2
  go_ret
  exact ⟨⟨a3, c3, g3, rfl, o3, p3, q3, by omega⟩, nxt N1.out n⟩
end Go.Proofs.YtnfciobpfiibcaaDoor

/-
  The steps of the program's schedule that go on to a secret of a label.
-/
namespace Go.Proofs.YtnfciobpfiibcaaDoor
set_option maxRecDepth 100000
open Go Go.RowKit

/-- A schedule whose secret the call made. -/
def SC2 (w : World) (v : Value) (B : Nat) (ys : List Int) (x : Value) : Prop := ∃ (a : Option Addr) (c g : Nat), v = .agg #[.slice a ys.length c, x] ∧ Own w g a .u8 ys ∧ (a = none → c = 0) ∧ ys.length ≤ c ∧ B ≤ g
theorem SC2.up {w w' : World} {v : Value} {B : Nat} {ys : List Int} {x : Value} (h : SC2 w v B ys x) (n : Below w.heap.size w w') : SC2 w' v B ys x := by
  obtain ⟨a, c, g, e, o, q⟩ := h
  exact ⟨a, c, g, e, o.up n, q⟩
def SCh (B : Nat) (ys : List Int) (x : Value) : Fact := ⟨fun v w => SC2 w v B ys x, fun n h => h.up n⟩
theorem buSc (w : World) (a a' : Option Addr) (n n' c c' : Nat) : (Instr.build 36 #[(0, .slice a n c), (1, .slice a' n' c')]).run Tryd.prog w = .ok (.agg #[.slice a n c, .slice a' n' c']) w := by kernel_rfl
theorem step_b2 {ops : Array Oper} {Q : Exit → Act → World → Prop} {md : Region.Mode} {F : Nat → Fact} {a0 : Act} {w0 : World} {i : Nat} {o : Oper} {B : Nat} {ys : List Int} {a' : Option Addr} {n' c' : Nat} (hi : ops[i]? = some o) (p q j k : Nat) (hop : o.op = .build 36 #[(0, .tmp p), (1, .tmp q)])
    (hj : waits md ops i j p = true) (hk : waits md ops i k q = true) (hFj : F j = RNh B ys) (hFk : F k = Fact.eq (.slice a' n' c')) (hFi : F i = SCh B ys (.slice a' n' c')) : StepOk Tryd.prog md ops Q F a0 w0 i := by
  refine step_pure hi fun a w _ _ hf => ?_
  have h1 := hf j p hj
  have h2 := hf k q hk
  rw [hFj] at h1
  rw [hFk] at h2
  obtain ⟨a1, c1, g1, e7, o1, p1, q1, r1⟩ := h1
  have x1 : a.eval (.tmp p) = .slice a1 ys.length c1 := e7
  have x2 : a.eval (.tmp q) = .slice a' n' c' := h2
  refine ⟨.agg #[.slice a1 ys.length c1, .slice a' n' c'], ?_, by rw [hFi]; exact ⟨a1, c1, g1, rfl, o1, p1, q1, r1⟩⟩
  have gg : (#[(0, Operand.tmp p), (1, Operand.tmp q)].map fun (n, x) => (n, a.eval x)) = #[(0, Value.slice a1 ys.length c1), (1, .slice a' n' c')] := by simp [x1, x2]
  simp only [execOp, hop, gg]
  rw [Sem.run_bind, buSc]
  rfl
theorem one2 (a a' : Option Addr) (n n' c c' : Nat) : ([.slice a n c, .slice a' n' c'] : List Value).toArray.all (·.oneCell') = true := all_oneCell_toArray fun v hv => by
  simp only [List.mem_cons, List.not_mem_nil, or_false] at hv
  rcases hv with rfl | rfl
  all_goals rfl
theorem there2 {w : World} {q : Nat} {x y : Value} {t : TypeId} (h : w.heap[q]? = some (.cells #[x, y] t (0, 0))) : w.there q 0 2 := fun j hj => by
  rw [Nat.zero_add, cell_of_row _ _ _ _ _ _ h, frozen_of_row _ _ _ _ _ h]
  refine ⟨?_, rfl⟩
  obtain rfl | rfl : j = 0 ∨ j = 1 := by omega
  all_goals rfl
theorem range_up {W W' : World} {q : Nat} {cs : List Value} (h : W.rangeAt q 0 cs) (l : q < W.heap.size) (n : Below W.heap.size W W') : W'.rangeAt q 0 cs := fun j v hj => (World.cell?_of_block (a := ⟨q, 0 + j, none⟩) (n.block q l)).trans (h j v hj)
theorem bx_lt (w : World) (x y : Value) : w.heap.size < (bx w x y).heap.size := by simp [bx]

set_option maxHeartbeats 4000000 in
theorem sDerive_any (w : World) (hH : HasH w) {a a' : Option Addr} {c n' c' : Nat} {ks : List Int} (s : ByteArray) (hs : s.size ≤ 1048576) (h1 : Lq w a c ks) :
    Calls Tryd.prog 63 #[.agg #[.slice a ks.length c, .slice a' n' c'], .string s] w fun e w' => (∃ v, e = .returned v ∧ SC2 w' v w.heap.size (labA ks s hE 32) (.slice a' n' c')) ∧ Below w.heap.size w w' := by
  have n0 := bx_up w (.slice a ks.length c) (.slice a' n' c')
  have z0 := bx_lt w (.slice a ks.length c) (.slice a' n' c')
  have zz : (bx w (.slice a ks.length c) (.slice a' n' c')).heap.size = w.heap.size + 1 := by simp [bx]
  have R0 := bx_range w (.slice a ks.length c) (.slice a' n' c')
  obtain ⟨d3, hd3, hrow3⟩ := rowSc
  have HH := hH.up n0
  have H1 := h1.up n0
  clear hH h1
  obtain ⟨ls, hls⟩ : ∃ l, l = labA ks s hE 32 := ⟨_, rfl⟩
  have HL := hide hls
  rw [← hls]
  clear hls
  unfold bx at n0 z0 zz R0 HH H1
  go_enter Tryd.func63, Tryd.ntmps63
  go_upto_region 1 with fail
  generalize w.alloc (.cells #[.slice a ks.length c, .slice a' n' c'] 36) = wa at *
  have n1 : Below wa.heap.size wa (wa.alloc (.cells #[.slice none 0 0, .slice none 0 0] 36)) := (Below.refl _ _).alloc (Nat.le_refl _) _
  have TH : (wa.alloc (.cells #[.slice none 0 0, .slice none 0 0] 36)).there (w.heap.size + 1) 0 2 := there2 (x := .slice none 0 0) (y := .slice none 0 0) (t := 36) (by rw [← zz]; show (wa.heap.push _)[wa.heap.size]? = _; simp)
  have R1 := range_up R0 z0 n1
  have HH1 := HH.up n1
  have L1 := H1.up n1
  have N1 := nxt n0 n1
  have zb : w.heap.size + 1 < (wa.alloc (.cells #[.slice none 0 0, .slice none 0 0] 36)).heap.size := by simp; omega
  generalize wa.alloc (.cells #[.slice none 0 0, .slice none 0 0] 36) = wb at *
  clear n0 n1 R0 z0 zz HH H1
  refine region_putF 8 7 4 12 _ (fun i => [Fact.eq (.pointer (some ⟨w.heap.size, 0, none⟩)), Fact.eq (.slice a ks.length c), Fact.eq (.string s), RNh wb.heap.size hE, RNh wb.heap.size ls, Fact.eq (.pointer (some ⟨w.heap.size, 1, none⟩)), Fact.eq (.slice a' n' c'), SCh wb.heap.size ls (.slice a' n' c')].getD i Fact.no) (w.heap.size + 1) 0 36 (by kernel_rfl) (by kernel_rfl) rfl rfl rfl (by kernel_rfl) rfl (by kernel_rfl) ?_ ?_
  · intro i hi
    obtain rfl | rfl | rfl | rfl | rfl | rfl | rfl | rfl : i = 0 ∨ i = 1 ∨ i = 2 ∨ i = 3 ∨ i = 4 ∨ i = 5 ∨ i = 6 ∨ i = 7 := by omega
    · refine step_pure rfl fun A ww hb hw hf => ?_
      have e1 : A.tmps[2]?.getD undef = .pointer (some ⟨w.heap.size, 0, none⟩) := gdv (hb.2.2 2 (by kernel_rfl))
      exact ⟨.pointer (some ⟨w.heap.size, 0, none⟩), by simp [go_sem, e1], rfl⟩
    · refine step_pure rfl fun A ww hb hw hf => ?_
      have e3 : A.tmps[5]?.getD undef = .pointer (some ⟨w.heap.size, 0, none⟩) := gdv (hf 0 5 (by kernel_rfl))
      have hc : ww.cell? ⟨w.heap.size, 0, none⟩ = some (.slice a ks.length c) := range_up R1 (by omega) hw 0 _ rfl
      exact ⟨.slice a ks.length c, by simp [go_sem, e3, hc], rfl⟩
    · refine step_pure rfl fun A ww hb hw hf => ?_
      have e1 : A.tmps[1]?.getD undef = .string s := gdv (hb.2.2 1 (by kernel_rfl))
      exact ⟨.string s, by simp [go_sem, e1], rfl⟩
    · refine step_callv rfl 51 _ _ rfl (by kernel_rfl) fun A ww hb hw hf => ?_
      show Calls Tryd.prog 51 #[.slice none 0 0] ww _
      exact (implHash_32 ww 0 none 0 [] (Rd.nil _ _ _ _) byt_nil (Nat.le_refl _) (by simp) (HH1.1.up hw) (HH1.2.up hw)).mono (by rintro r w' ⟨⟨a1, c1, g1, rfl, o1, p1, q1, r1⟩, n⟩; exact ⟨_, rfl, n, a1, c1, g1, rfl, o1, p1, q1, Nat.le_trans hw.size r1⟩)
    · refine step_callv rfl 79 _ _ rfl (by kernel_rfl) fun A ww hb hw hf => ?_
      have e6 : A.tmps.getD 6 undef = .slice a ks.length c := hf 1 6 (by kernel_rfl)
      have e7 : A.tmps.getD 7 undef = .string s := hf 2 7 (by kernel_rfl)
      obtain ⟨a1, c1, g1, e8, o1, p1, q1, r1⟩ := hf 3 8 (by kernel_rfl)
      obtain ⟨⟨g, r⟩, b, p, q, l⟩ := L1.up hw
      show Calls Tryd.prog 79 #[A.tmps.getD 6 undef, A.tmps.getD 7 undef, A.tmps.getD 8 undef] ww _
      rw [e6, e7, e8]
      have D := implDerive_any ww g a c ks r b q l s hs g1 a1 c1 hE o1.rd hE_byt p1 (by rw [hE_len]; decide) (HH1.1.up hw) (HH1.2.up hw)
      rw [← HL.out] at D
      exact D.mono (by rintro r w' ⟨⟨a1, c1, g1, rfl, o1, p1, q1, r1⟩, n⟩; exact ⟨_, rfl, n, a1, c1, g1, rfl, o1, p1, q1, Nat.le_trans hw.size r1⟩)
    · refine step_pure rfl fun A ww hb hw hf => ?_
      have e1 : A.tmps[2]?.getD undef = .pointer (some ⟨w.heap.size, 0, none⟩) := gdv (hb.2.2 2 (by kernel_rfl))
      exact ⟨.pointer (some ⟨w.heap.size, 1, none⟩), by simp [go_sem, e1], rfl⟩
    · refine step_pure rfl fun A ww hb hw hf => ?_
      have e3 : A.tmps[10]?.getD undef = .pointer (some ⟨w.heap.size, 1, none⟩) := gdv (hf 5 10 (by kernel_rfl))
      have hc : ww.cell? ⟨w.heap.size, 1, none⟩ = some (.slice a' n' c') := range_up R1 (by omega) hw 1 _ rfl
      exact ⟨.slice a' n' c', by simp [go_sem, e3, hc], rfl⟩
    · exact step_b2 rfl 9 11 4 6 rfl (by kernel_rfl) (by kernel_rfl) rfl rfl rfl
  intro vs6 W v hw hv3
  have hv3 : SC2 W v wb.heap.size ls (.slice a' n' c') := hv3
  obtain ⟨a1, c1, g1, rfl, o1, p1, q1, r1⟩ := hv3
  have th := there_upn (by omega) TH hw
  refine ⟨[.slice a1 ls.length c1, .slice a' n' c'], rfl, th, iSc, one2 _ _ _ _ _ _, ?_⟩
  have RR := World.rangeAt_setCells_same W (w.heap.size + 1) 0 [.slice a1 ls.length c1, .slice a' n' c'] th
  have OQ := only_setCells W (w.heap.size + 1) [.slice a1 ls.length c1, .slice a' n' c'] 0
  have N2 : Below w.heap.size w (W.setCells (w.heap.size + 1) 0 [.slice a1 ls.length c1, .slice a' n' c']) := (nxt N1 hw).trans (OQ.below (by omega))
  have o1' := o1.only OQ (fun _ => by omega)
  generalize W.setCells (w.heap.size + 1) 0 [.slice a1 ls.length c1, .slice a' n' c'] = W2 at *
  simp only [puts, Act.put, List.setIfInBounds_toArray, List.set_cons_succ, List.set_cons_zero]
  clear o1 OQ th TH R1 N1 HH1 L1
  go_wp2
  exact bodyPost_ret (v := .agg #[.slice a1 ls.length c1, .slice a' n' c']) (results_cell_m Tryd.results63 _ _ (w.heap.size + 1) _ d3 rfl RR hd3 hrow3 iSc) rfl ⟨⟨_, rfl, a1, c1, g1, rfl, o1', p1, q1, by omega⟩, N2⟩

set_option maxHeartbeats 4000000 in
theorem sFinish_any (w : World) (hH : HasH w) {a a' : Option Addr} {c c' : Nat} {ks xs : List Int} (h1 : Lq w a c ks) (h2 : Lq w a' c' xs) :
    Calls Tryd.prog 43 #[.agg #[.slice a ks.length c, .slice a' xs.length c']] w fun e w' => NewRow w.heap.size w' e .u8 (macL (labA ks lbF [] 32) xs) ∧ Below w.heap.size w w' := by
  have n0 := bx_up w (.slice a ks.length c) (.slice a' xs.length c')
  have z0 := bx_lt w (.slice a ks.length c) (.slice a' xs.length c')
  have R1 := bx_range w (.slice a ks.length c) (.slice a' xs.length c')
  obtain ⟨d3, hd3, hrow3⟩ := rowSc
  have HH1 := hH.up n0
  have L1 := h1.up n0
  have L2 := h2.up n0
  clear hH h1 h2
  have LL := labA_len ks lbF [] 32
  have LB := labA_byt ks lbF [] 32
  obtain ⟨ls, hls⟩ : ∃ l, l = labA ks lbF [] 32 := ⟨_, rfl⟩
  rw [← hls] at LL LB
  rw [← hls]
  have HL := hide hls
  clear hls
  unfold bx at n0 z0 R1 HH1 L1 L2
  go_enter Tryd.func43, Tryd.ntmps43
  go_upto_region 1 with fail
  generalize w.alloc (.cells #[.slice a ks.length c, .slice a' xs.length c'] 36) = wb at *
  refine region_end 6 (fun i => [Fact.eq (.agg #[.slice a ks.length c, .slice a' xs.length c']), RNh wb.heap.size ls, Fact.eq (.pointer (some ⟨w.heap.size, 1, none⟩)), Fact.eq (.slice a' xs.length c'), RNh wb.heap.size (macL ls xs), RNh wb.heap.size (macL ls xs)].getD i Fact.no) (by kernel_rfl) (by kernel_rfl) rfl ?_ ?_
  · intro i hi
    obtain rfl | rfl | rfl | rfl | rfl | rfl : i = 0 ∨ i = 1 ∨ i = 2 ∨ i = 3 ∨ i = 4 ∨ i = 5 := by omega
    · refine step_load rfl 36 (.tmp 1) rfl d3 2 hd3 hrow3 iSc fun A ww hb hw hf => ⟨_, 0, [.slice a ks.length c, .slice a' xs.length c'], hb.2.2 1 (by kernel_rfl), range_up R1 z0 hw, rfl, rfl⟩
    · refine step_callv rfl 58 _ _ rfl (by kernel_rfl) fun A ww hb hw hf => ?_
      have e3 : A.tmps.getD 3 undef = .agg #[.slice a ks.length c, .slice a' xs.length c'] := hf 0 3 (by kernel_rfl)
      show Calls Tryd.prog 58 #[A.tmps.getD 3 undef, .string lbF, .int .i64 32] ww _
      rw [e3]
      have D := sExpand_any ww (HH1.up hw) (.slice a' xs.length c') lbF (by decide) 32 (L1.up hw)
      rw [← HL.out] at D
      exact D.mono (by rintro r w' ⟨⟨a1, c1, g1, rfl, o1, p1, q1, r1⟩, n⟩; exact ⟨_, rfl, n, a1, c1, g1, rfl, o1, p1, q1, Nat.le_trans hw.size r1⟩)
    · refine step_pure rfl fun A ww hb hw hf => ?_
      have e1 : A.tmps[1]?.getD undef = .pointer (some ⟨w.heap.size, 0, none⟩) := gdv (hb.2.2 1 (by kernel_rfl))
      exact ⟨.pointer (some ⟨w.heap.size, 1, none⟩), by simp [go_sem, e1], rfl⟩
    · refine step_pure rfl fun A ww hb hw hf => ?_
      have e3 : A.tmps[5]?.getD undef = .pointer (some ⟨w.heap.size, 1, none⟩) := gdv (hf 2 5 (by kernel_rfl))
      have hc : ww.cell? ⟨w.heap.size, 1, none⟩ = some (.slice a' xs.length c') := range_up R1 z0 hw 1 _ rfl
      exact ⟨.slice a' xs.length c', by simp [go_sem, e3, hc], rfl⟩
    · refine step_callv rfl 61 _ _ rfl (by kernel_rfl) fun A ww hb hw hf => ?_
      obtain ⟨a1, c1, g1, e4, o1, p1, q1, r1⟩ := hf 1 4 (by kernel_rfl)
      have e6 : A.tmps.getD 6 undef = .slice a' xs.length c' := hf 3 6 (by kernel_rfl)
      obtain ⟨⟨g, r⟩, b, p, q, l⟩ := L2.up hw
      show Calls Tryd.prog 61 #[A.tmps.getD 4 undef, A.tmps.getD 6 undef] ww _
      rw [e4, e6]
      exact (implMac_any ww g1 a1 c1 ls o1.rd LB q1 (by omega) g a' c' xs r b q (by omega) (HH1.1.up hw) (HH1.2.up hw)).mono (by rintro r w' ⟨⟨a1, c1, g1, rfl, o1, p1, q1, r1⟩, n⟩; exact ⟨_, rfl, n, a1, c1, g1, rfl, o1, p1, q1, Nat.le_trans hw.size r1⟩)
    · refine step_pure rfl fun A ww hb hw hf => ?_
      obtain ⟨a1, c1, g1, e7, o1, p1, q1, r1⟩ := hf 4 7 (by kernel_rfl)
      exact ⟨.slice a1 (macL ls xs).length c1, by simp [go_sem, gdv e7], ⟨a1, c1, g1, rfl, o1, p1, q1, r1⟩⟩
  intro A W hb hw hF
  have e2 := hF 5 2 (by kernel_rfl)
  obtain ⟨vs, hvs⟩ : ∃ vs : Nat → Value, ∀ d, A.tmps.getD d undef = vs d := ⟨_, fun _ => rfl⟩
  rw [hvs] at e2
  rw [puts_of (md := .any) (k := 6) (by kernel_rfl) rfl hb vs hvs]
  have N9 := nxt n0 hw
  clear hb hF hvs hw R1 HH1 L1 L2 HL LB LL
  obtain ⟨a1, c1, g1, e3, o1, p1, q1, r1⟩ := e2
  simp only [puts, e3, Act.put, List.setIfInBounds_toArray, List.set_cons_succ, List.set_cons_zero]
  go_wp2
  go_ret
  exact ⟨⟨a1, c1, g1, rfl, o1, p1, q1, by omega⟩, N9⟩

set_option maxHeartbeats 1000000 in
theorem sMix_any (w : World) (hH : HasH w) {a a' : Option Addr} {c c' : Nat} {ks xs : List Int} (h1 : Lq w a c ks) (h2 : Lq w a' c' xs) :
    Calls Tryd.prog 49 #[.agg #[.slice a ks.length c, .slice a' xs.length c']] w fun e w' => NewRow w.heap.size w' e .u8 (macL (labA ks lbD hE 32) xs) ∧ Below w.heap.size w w' := by
  have n1 := bx_up w (.slice a ks.length c) (.slice a' xs.length c')
  have C := hide (sDerive_any (a' := a') (n' := xs.length) (c' := c') _ (hH.up n1) lbD (by decide) (h1.up n1))
  have N1 := hide n1
  obtain ⟨d2, hd2, hrow2⟩ := rowSc
  have RG := hide (bx_range w (.slice a ks.length c) (.slice a' xs.length c'))
  have LL := labA_len ks lbD hE 32
  have LB := labA_byt ks lbD hE 32
  clear h1 n1
  unfold bx at C N1 RG
  generalize labA ks lbD hE 32 = ls at *
  have EX := fun W (n : Below w.heap.size w W) a1 c1 (h : Lq W a1 c1 ls) => hide (sExtract_any W (hH.up n) h (h2.up n))
  generalize macL ls xs = ys at *
  have LLh := hide LL
  clear LL
  unfold lbD at C
  go_enter Tryd.func49, Tryd.ntmps49
  go_wp2_with fail
  refine C.out.mono ?_
  rintro e w1 ⟨⟨v, rfl, a3, c3, g3, rfl, o3, p3, q3, r3⟩, n⟩
  have z1 := N1.out.size
  have n2 := nxt N1.out n
  have E := EX w1 n2 a3 c3 (Lq.of o3 p3 q3 LB (by have := LLh.out; omega))
  clear EX o3 p3 q3 C RG h2 hH
  go_wp2_with fail
  refine E.out.mono ?_
  rintro e w2 ⟨⟨a4, c4, g4, rfl, o4, p4, q4, r4⟩, n4⟩
  have z2 := n2.size
  go_wp2
  go_ret
  exact ⟨⟨a4, c4, g4, rfl, o4, p4, q4, by omega⟩, nxt n2 n4⟩
set_option maxHeartbeats 1000000 in
theorem sBind_any (w : World) (hH : HasH w) {a a' : Option Addr} {c c' : Nat} {ks xs : List Int} (h1 : Lq w a c ks) (h2 : Lq w a' c' xs) :
    Calls Tryd.prog 52 #[.agg #[.slice a ks.length c, .slice a' xs.length c']] w fun e w' => NewRow w.heap.size w' e .u8 (macL (labA (labA ks lbB hE 32) lbF [] 32) xs) ∧ Below w.heap.size w w' := by
  have n1 := bx_up w (.slice a ks.length c) (.slice a' xs.length c')
  have C := hide (sDerive_any (a' := a') (n' := xs.length) (c' := c') _ (hH.up n1) lbB (by decide) (h1.up n1))
  have N1 := hide n1
  obtain ⟨d2, hd2, hrow2⟩ := rowSc
  have RG := hide (bx_range w (.slice a ks.length c) (.slice a' xs.length c'))
  have LL := labA_len ks lbB hE 32
  have LB := labA_byt ks lbB hE 32
  clear h1 n1
  unfold bx at C N1 RG
  generalize labA ks lbB hE 32 = ls at *
  have EX := fun W (n : Below w.heap.size w W) a1 c1 (h : Lq W a1 c1 ls) => hide (sFinish_any W (hH.up n) h (h2.up n))
  generalize macL (labA ls lbF [] 32) xs = ys at *
  have LLh := hide LL
  clear LL
  unfold lbB at C
  go_enter Tryd.func52, Tryd.ntmps52
  go_wp2_with fail
  refine C.out.mono ?_
  rintro e w1 ⟨⟨v, rfl, a3, c3, g3, rfl, o3, p3, q3, r3⟩, n⟩
  have z1 := N1.out.size
  have n2 := nxt N1.out n
  have E := EX w1 n2 a3 c3 (Lq.of o3 p3 q3 LB (by have := LLh.out; omega))
  clear EX o3 p3 q3 C RG h2 hH
  go_wp2_with fail
  refine E.out.mono ?_
  rintro e w2 ⟨⟨a4, c4, g4, rfl, o4, p4, q4, r4⟩, n4⟩
  have z2 := n2.size
  go_wp2
  go_ret
  exact ⟨⟨a4, c4, g4, rfl, o4, p4, q4, by omega⟩, nxt n2 n4⟩
end Go.Proofs.YtnfciobpfiibcaaDoor

/-
  Lengths are asked for ahead of a step of the program's schedule; its exported functions (written by gens/ksc.py).
-/
namespace Go.Proofs.YtnfciobpfiibcaaDoor
set_option maxRecDepth 100000
open Go Go.RowKit

set_option maxHeartbeats 1000000 in
theorem isOther_any (w : World) (a : Option Addr) (n c : Nat) :
    Calls Tryd.prog 54 #[.slice a n c] w fun e w' => e = .returned (.bool (decide (n ≠ 32))) ∧ w' = w := by
  by_cases h : n = 32
  · subst h
    go_enter Tryd.func54, Tryd.ntmps54
    go_wp2
    go_ret
    exact ⟨rfl, rfl⟩
  · have t : ((n : Int) != 32) = true := by simp; omega
    have t2 : decide (n ≠ 32) = true := decide_eq_true h
    rw [t2]
    go_enter Tryd.func54, Tryd.ntmps54
    go_wp2
    go_ret
    exact ⟨rfl, rfl⟩
/-- A row of lists as values. -/
abbrev Sv := Option Addr × Nat × Nat
def sv0 : Sv := (none, 0, 0)
def Sv.v (x : Sv) : Value := .slice x.1 x.2.1 x.2.2
def RwV (w : World) (b : Nat) (vs : List Sv) : Prop := ∀ i, i < vs.length → w.cell? ⟨b, i, none⟩ = some (.slice (vs.getD i sv0).1 (vs.getD i sv0).2.1 (vs.getD i sv0).2.2)
/-- One of them has another length. -/
def oth (vs : List Sv) : Bool := vs.any fun x => decide (x.2.1 ≠ 32)
theorem oth_take {vs : List Sv} {k : Nat} (hk : k < vs.length) : oth (vs.take (k + 1)) = (oth (vs.take k) || decide ((vs.getD k sv0).2.1 ≠ 32)) := by
  have e : vs.take (k + 1) = vs.take k ++ [vs.getD k sv0] := by
    rw [List.take_succ_eq_append_getElem hk]
    congr 2
    simp [hk]
  rw [e]
  unfold oth
  rw [List.any_append]
  simp
theorem oth_of {vs : List Sv} {k : Nat} (hk : k < vs.length) (h : decide ((vs.getD k sv0).2.1 ≠ 32) = true) : oth vs = true := by
  unfold oth
  rw [List.any_eq_true]
  exact ⟨vs.getD k sv0, by simp [hk], h⟩
set_option maxHeartbeats 2000000 in
theorem idxO_any (w : World) (b : Nat) (vs : List Sv) (hr : RwV w b vs) (hn : vs.length ≤ 1048576) :
    Calls Tryd.prog 71 #[.slice (some ⟨b, 0, none⟩) vs.length vs.length, .func (.func 54) #[] #[]] w fun e w' => (∃ r : Int, e = .returned (.int .i64 r) ∧ decide (0 ≤ r) = oth vs) ∧ w' = w := by
  go_enter Tryd.func71, Tryd.ntmps71
  go_wp2
  go_loopw [8] (fun i wr => wr = w ∧ ∃ k : Nat, k ≤ vs.length ∧ i = .int .i64 k ∧ Hid (oth (vs.take k) = false)) (fun i _ => vs.length - (intOf i).toNat)
  case atStart => exact ⟨rfl, 0, by omega, rfl, by show _ = _; rw [List.take_zero]; rfl⟩
  case round =>
    obtain ⟨rfl, k, hk, rfl, hA⟩ := hrel
    by_cases hlt : k < vs.length
    · have t2 : (k : Int) < (vs.length : Int) := by omega
      have c1 := hr k hlt
      have CC := hide (isOther_any wr (vs.getD k sv0).1 (vs.getD k sv0).2.1 (vs.getD k sv0).2.2)
      have AT := hide (oth_take hlt)
      have AO := hide (fun h => oth_of hlt h)
      rw [hA.out] at AT
      clear hA
      generalize (vs.getD k sv0).1 = x1 at *
      generalize (vs.getD k sv0).2.1 = x2 at *
      generalize (vs.getD k sv0).2.2 = x3 at *
      generalize decide (x2 ≠ 32) = z at *
      cases z with
      | false =>
        clear AO
        go_wp2_with fail
        refine CC.out.mono ?_
        rintro e w1 ⟨rfl, rfl⟩
        go_wp2
        go_roundw
        case rel => exact ⟨by first | rfl | trivial, k + 1, by omega, by go_num, by show _ = _; rw [AT.out]; rfl⟩
        case measure => simp [intOf]; omega
      | true =>
        have AO' := hide (AO.out rfl)
        clear AO AT
        go_wp2_with fail
        refine CC.out.mono ?_
        rintro e w1 ⟨rfl, rfl⟩
        go_wp2
        go_ret
        exact ⟨⟨_, rfl, by rw [AO'.out]; exact decide_eq_true (by omega)⟩, rfl⟩
    · obtain rfl : k = vs.length := by omega
      rw [List.take_length] at hA
      go_wp2
      go_ret
      exact ⟨⟨_, rfl, by rw [hA.out]; rfl⟩, rfl⟩
set_option maxHeartbeats 2000000 in
theorem conO_any (w : World) (b : Nat) (vs : List Sv) (hr : RwV w b vs) (hn : vs.length ≤ 1048576) :
    Calls Tryd.prog 53 #[.slice (some ⟨b, 0, none⟩) vs.length vs.length, .func (.func 54) #[] #[]] w fun e w' => e = .returned (.bool (oth vs)) ∧ w' = w := by
  have IX := hide (idxO_any w b vs hr hn)
  generalize oth vs = z at *
  go_enter Tryd.func53, Tryd.ntmps53
  go_wp2_with fail
  refine IX.out.mono ?_
  rintro e w1 ⟨⟨r, rfl, hrz⟩, rfl⟩
  have HZ := hide hrz
  clear hrz
  go_wp2
  go_ret
  exact ⟨by rw [← HZ.out]; rfl, rfl⟩
set_option maxHeartbeats 1000000 in
theorem takeExtract_any (w : World) (b : Nat) (vs : List Sv) (hr : RwV w b vs) (hn : vs.length ≤ 1048576) (x : Value) (ys : List Int) (C : oth vs = false → Calls Tryd.prog 38 #[x] w fun e w' => NewRow w.heap.size w' e .u8 ys ∧ Below w.heap.size w w') :
    Calls Tryd.prog 36 #[.func (.func 38) #[x] #[], .slice (some ⟨b, 0, none⟩) vs.length vs.length] w fun e w' => NewRow w.heap.size w' e .u8 (if oth vs = true then [] else ys) ∧ Below w.heap.size w w' := by
  have CO := hide (conO_any w b vs hr hn)
  have CH := hide C
  clear hr C
  cases hz : oth vs with
  | true =>
    rw [hz] at CO
    clear CH hz
    rw [if_pos rfl]
    go_enter Tryd.func36, Tryd.ntmps36
    go_wp2_with fail
    refine CO.out.mono ?_
    rintro e w1 ⟨rfl, rfl⟩
    go_wp2
    go_ret
    exact ⟨newRow_z _ _, Below.refl _ _⟩
  | false =>
    rw [hz] at CO
    have CH := hide (CH.out hz)
    clear hz
    rw [if_neg (by decide)]
    go_enter Tryd.func36, Tryd.ntmps36
    go_wp2_with fail
    refine CO.out.mono ?_
    rintro e w1 ⟨rfl, rfl⟩
    go_wp2_with fail
    refine CH.out.mono ?_
    rintro e w2 ⟨⟨a3, c3, g3, rfl, o3, p3, q3, r3⟩, n⟩
    go_wp2
    go_ret
    exact ⟨⟨a3, c3, g3, rfl, o3, p3, q3, r3⟩, n⟩
set_option maxHeartbeats 1000000 in
theorem takeMix_any (w : World) (b : Nat) (vs : List Sv) (hr : RwV w b vs) (hn : vs.length ≤ 1048576) (x : Value) (ys : List Int) (C : oth vs = false → Calls Tryd.prog 49 #[x] w fun e w' => NewRow w.heap.size w' e .u8 ys ∧ Below w.heap.size w w') :
    Calls Tryd.prog 36 #[.func (.func 49) #[x] #[], .slice (some ⟨b, 0, none⟩) vs.length vs.length] w fun e w' => NewRow w.heap.size w' e .u8 (if oth vs = true then [] else ys) ∧ Below w.heap.size w w' := by
  have CO := hide (conO_any w b vs hr hn)
  have CH := hide C
  clear hr C
  cases hz : oth vs with
  | true =>
    rw [hz] at CO
    clear CH hz
    rw [if_pos rfl]
    go_enter Tryd.func36, Tryd.ntmps36
    go_wp2_with fail
    refine CO.out.mono ?_
    rintro e w1 ⟨rfl, rfl⟩
    go_wp2
    go_ret
    exact ⟨newRow_z _ _, Below.refl _ _⟩
  | false =>
    rw [hz] at CO
    have CH := hide (CH.out hz)
    clear hz
    rw [if_neg (by decide)]
    go_enter Tryd.func36, Tryd.ntmps36
    go_wp2_with fail
    refine CO.out.mono ?_
    rintro e w1 ⟨rfl, rfl⟩
    go_wp2_with fail
    refine CH.out.mono ?_
    rintro e w2 ⟨⟨a3, c3, g3, rfl, o3, p3, q3, r3⟩, n⟩
    go_wp2
    go_ret
    exact ⟨⟨a3, c3, g3, rfl, o3, p3, q3, r3⟩, n⟩
set_option maxHeartbeats 1000000 in
theorem takeFinish_any (w : World) (b : Nat) (vs : List Sv) (hr : RwV w b vs) (hn : vs.length ≤ 1048576) (x : Value) (ys : List Int) (C : oth vs = false → Calls Tryd.prog 43 #[x] w fun e w' => NewRow w.heap.size w' e .u8 ys ∧ Below w.heap.size w w') :
    Calls Tryd.prog 36 #[.func (.func 43) #[x] #[], .slice (some ⟨b, 0, none⟩) vs.length vs.length] w fun e w' => NewRow w.heap.size w' e .u8 (if oth vs = true then [] else ys) ∧ Below w.heap.size w w' := by
  have CO := hide (conO_any w b vs hr hn)
  have CH := hide C
  clear hr C
  cases hz : oth vs with
  | true =>
    rw [hz] at CO
    clear CH hz
    rw [if_pos rfl]
    go_enter Tryd.func36, Tryd.ntmps36
    go_wp2_with fail
    refine CO.out.mono ?_
    rintro e w1 ⟨rfl, rfl⟩
    go_wp2
    go_ret
    exact ⟨newRow_z _ _, Below.refl _ _⟩
  | false =>
    rw [hz] at CO
    have CH := hide (CH.out hz)
    clear hz
    rw [if_neg (by decide)]
    go_enter Tryd.func36, Tryd.ntmps36
    go_wp2_with fail
    refine CO.out.mono ?_
    rintro e w1 ⟨rfl, rfl⟩
    go_wp2_with fail
    refine CH.out.mono ?_
    rintro e w2 ⟨⟨a3, c3, g3, rfl, o3, p3, q3, r3⟩, n⟩
    go_wp2
    go_ret
    exact ⟨⟨a3, c3, g3, rfl, o3, p3, q3, r3⟩, n⟩
set_option maxHeartbeats 1000000 in
theorem takeTicket_any (w : World) (b : Nat) (vs : List Sv) (hr : RwV w b vs) (hn : vs.length ≤ 1048576) (x : Value) (ys : List Int) (C : oth vs = false → Calls Tryd.prog 44 #[x] w fun e w' => NewRow w.heap.size w' e .u8 ys ∧ Below w.heap.size w w') :
    Calls Tryd.prog 36 #[.func (.func 44) #[x] #[], .slice (some ⟨b, 0, none⟩) vs.length vs.length] w fun e w' => NewRow w.heap.size w' e .u8 (if oth vs = true then [] else ys) ∧ Below w.heap.size w w' := by
  have CO := hide (conO_any w b vs hr hn)
  have CH := hide C
  clear hr C
  cases hz : oth vs with
  | true =>
    rw [hz] at CO
    clear CH hz
    rw [if_pos rfl]
    go_enter Tryd.func36, Tryd.ntmps36
    go_wp2_with fail
    refine CO.out.mono ?_
    rintro e w1 ⟨rfl, rfl⟩
    go_wp2
    go_ret
    exact ⟨newRow_z _ _, Below.refl _ _⟩
  | false =>
    rw [hz] at CO
    have CH := hide (CH.out hz)
    clear hz
    rw [if_neg (by decide)]
    go_enter Tryd.func36, Tryd.ntmps36
    go_wp2_with fail
    refine CO.out.mono ?_
    rintro e w1 ⟨rfl, rfl⟩
    go_wp2_with fail
    refine CH.out.mono ?_
    rintro e w2 ⟨⟨a3, c3, g3, rfl, o3, p3, q3, r3⟩, n⟩
    go_wp2
    go_ret
    exact ⟨⟨a3, c3, g3, rfl, o3, p3, q3, r3⟩, n⟩
set_option maxHeartbeats 1000000 in
theorem takeUpdate_any (w : World) (b : Nat) (vs : List Sv) (hr : RwV w b vs) (hn : vs.length ≤ 1048576) (x : Value) (ys : List Int) (C : oth vs = false → Calls Tryd.prog 40 #[x] w fun e w' => NewRow w.heap.size w' e .u8 ys ∧ Below w.heap.size w w') :
    Calls Tryd.prog 36 #[.func (.func 40) #[x] #[], .slice (some ⟨b, 0, none⟩) vs.length vs.length] w fun e w' => NewRow w.heap.size w' e .u8 (if oth vs = true then [] else ys) ∧ Below w.heap.size w w' := by
  have CO := hide (conO_any w b vs hr hn)
  have CH := hide C
  clear hr C
  cases hz : oth vs with
  | true =>
    rw [hz] at CO
    clear CH hz
    rw [if_pos rfl]
    go_enter Tryd.func36, Tryd.ntmps36
    go_wp2_with fail
    refine CO.out.mono ?_
    rintro e w1 ⟨rfl, rfl⟩
    go_wp2
    go_ret
    exact ⟨newRow_z _ _, Below.refl _ _⟩
  | false =>
    rw [hz] at CO
    have CH := hide (CH.out hz)
    clear hz
    rw [if_neg (by decide)]
    go_enter Tryd.func36, Tryd.ntmps36
    go_wp2_with fail
    refine CO.out.mono ?_
    rintro e w1 ⟨rfl, rfl⟩
    go_wp2_with fail
    refine CH.out.mono ?_
    rintro e w2 ⟨⟨a3, c3, g3, rfl, o3, p3, q3, r3⟩, n⟩
    go_wp2
    go_ret
    exact ⟨⟨a3, c3, g3, rfl, o3, p3, q3, r3⟩, n⟩
set_option maxHeartbeats 1000000 in
theorem takeBind_any (w : World) (b : Nat) (vs : List Sv) (hr : RwV w b vs) (hn : vs.length ≤ 1048576) (x : Value) (ys : List Int) (C : oth vs = false → Calls Tryd.prog 52 #[x] w fun e w' => NewRow w.heap.size w' e .u8 ys ∧ Below w.heap.size w w') :
    Calls Tryd.prog 36 #[.func (.func 52) #[x] #[], .slice (some ⟨b, 0, none⟩) vs.length vs.length] w fun e w' => NewRow w.heap.size w' e .u8 (if oth vs = true then [] else ys) ∧ Below w.heap.size w w' := by
  have CO := hide (conO_any w b vs hr hn)
  have CH := hide C
  clear hr C
  cases hz : oth vs with
  | true =>
    rw [hz] at CO
    clear CH hz
    rw [if_pos rfl]
    go_enter Tryd.func36, Tryd.ntmps36
    go_wp2_with fail
    refine CO.out.mono ?_
    rintro e w1 ⟨rfl, rfl⟩
    go_wp2
    go_ret
    exact ⟨newRow_z _ _, Below.refl _ _⟩
  | false =>
    rw [hz] at CO
    have CH := hide (CH.out hz)
    clear hz
    rw [if_neg (by decide)]
    go_enter Tryd.func36, Tryd.ntmps36
    go_wp2_with fail
    refine CO.out.mono ?_
    rintro e w1 ⟨rfl, rfl⟩
    go_wp2_with fail
    refine CH.out.mono ?_
    rintro e w2 ⟨⟨a3, c3, g3, rfl, o3, p3, q3, r3⟩, n⟩
    go_wp2
    go_ret
    exact ⟨⟨a3, c3, g3, rfl, o3, p3, q3, r3⟩, n⟩
set_option maxHeartbeats 1000000 in
theorem takeKey_any (w : World) (b : Nat) (vs : List Sv) (hr : RwV w b vs) (hn : vs.length ≤ 1048576) (x : Value) (ys : List Int) (C : oth vs = false → Calls Tryd.prog 45 #[x] w fun e w' => NewRow w.heap.size w' e .u8 ys ∧ Below w.heap.size w w') :
    Calls Tryd.prog 36 #[.func (.func 45) #[x] #[], .slice (some ⟨b, 0, none⟩) vs.length vs.length] w fun e w' => NewRow w.heap.size w' e .u8 (if oth vs = true then [] else ys) ∧ Below w.heap.size w w' := by
  have CO := hide (conO_any w b vs hr hn)
  have CH := hide C
  clear hr C
  cases hz : oth vs with
  | true =>
    rw [hz] at CO
    clear CH hz
    rw [if_pos rfl]
    go_enter Tryd.func36, Tryd.ntmps36
    go_wp2_with fail
    refine CO.out.mono ?_
    rintro e w1 ⟨rfl, rfl⟩
    go_wp2
    go_ret
    exact ⟨newRow_z _ _, Below.refl _ _⟩
  | false =>
    rw [hz] at CO
    have CH := hide (CH.out hz)
    clear hz
    rw [if_neg (by decide)]
    go_enter Tryd.func36, Tryd.ntmps36
    go_wp2_with fail
    refine CO.out.mono ?_
    rintro e w1 ⟨rfl, rfl⟩
    go_wp2_with fail
    refine CH.out.mono ?_
    rintro e w2 ⟨⟨a3, c3, g3, rfl, o3, p3, q3, r3⟩, n⟩
    go_wp2
    go_ret
    exact ⟨⟨a3, c3, g3, rfl, o3, p3, q3, r3⟩, n⟩
set_option maxHeartbeats 1000000 in
theorem takeIv_any (w : World) (b : Nat) (vs : List Sv) (hr : RwV w b vs) (hn : vs.length ≤ 1048576) (x : Value) (ys : List Int) (C : oth vs = false → Calls Tryd.prog 46 #[x] w fun e w' => NewRow w.heap.size w' e .u8 ys ∧ Below w.heap.size w w') :
    Calls Tryd.prog 36 #[.func (.func 46) #[x] #[], .slice (some ⟨b, 0, none⟩) vs.length vs.length] w fun e w' => NewRow w.heap.size w' e .u8 (if oth vs = true then [] else ys) ∧ Below w.heap.size w w' := by
  have CO := hide (conO_any w b vs hr hn)
  have CH := hide C
  clear hr C
  cases hz : oth vs with
  | true =>
    rw [hz] at CO
    clear CH hz
    rw [if_pos rfl]
    go_enter Tryd.func36, Tryd.ntmps36
    go_wp2_with fail
    refine CO.out.mono ?_
    rintro e w1 ⟨rfl, rfl⟩
    go_wp2
    go_ret
    exact ⟨newRow_z _ _, Below.refl _ _⟩
  | false =>
    rw [hz] at CO
    have CH := hide (CH.out hz)
    clear hz
    rw [if_neg (by decide)]
    go_enter Tryd.func36, Tryd.ntmps36
    go_wp2_with fail
    refine CO.out.mono ?_
    rintro e w1 ⟨rfl, rfl⟩
    go_wp2_with fail
    refine CH.out.mono ?_
    rintro e w2 ⟨⟨a3, c3, g3, rfl, o3, p3, q3, r3⟩, n⟩
    go_wp2
    go_ret
    exact ⟨⟨a3, c3, g3, rfl, o3, p3, q3, r3⟩, n⟩
def zer32 : List Int := List.replicate 32 0
theorem zer32_len : zer32.length = 32 := by simp [zer32]
theorem zer32_byt : Byt zer32 := fun i => by
  unfold zer32
  rw [List.getD_eq_getElem?_getD, List.getElem?_replicate]
  split <;> simp
set_option maxHeartbeats 1000000 in
theorem noSecret_any (w : World) :
    Calls Tryd.prog 37 #[] w fun e w' => NewRow w.heap.size w' e .u8 zer32 ∧ Below w.heap.size w w' := by
  obtain ⟨i0, hi, hz0, hz1, hz2⟩ := info_parts Tryd.info5
  go_enter Tryd.func37, Tryd.ntmps37
  go_wp2_with (at_make; refine wpList_make_full _ rfl _ _ 22 rfl w.heap.size 5 i0 (.int .u8 0) 1 Tryd.underlying22 hi hz0 hz1 .i64 .i64 _ _ 32 rfl rfl rfl rfl (by rw [hz2]; decide) (by unfold maxLen; decide) (Nat.le_refl _) ?_; intro w5 hown hgrow)
  have hB0 := Blk.of_made hown
  have hN0 : Below w.heap.size w w5 := (Below.refl _ _).grown hgrow (Nat.le_refl _) (by simp)
  clear hown hgrow
  go_wp2
  go_ret
  exact ⟨⟨_, _, _, rfl, hB0.own0, fun h => by simp at h, by rw [zer32_len]; exact Nat.le_refl _, Nat.le_refl _⟩, hN0⟩
/-- What an empty psk stands for. -/
def knL (ks : List Int) : List Int := if ks.length = 0 then zer32 else ks
set_option maxHeartbeats 1000000 in
theorem knownKey_any (w : World) {a : Option Addr} {c : Nat} {ks : List Int} (h1 : Lq w a c ks) :
    Calls Tryd.prog 35 #[.slice a ks.length c] w fun e w' => (∃ a' c', e = .returned (.slice a' (knL ks).length c') ∧ Lq w' a' c' (knL ks)) ∧ Below w.heap.size w w' := by
  have NS := hide (noSecret_any w)
  by_cases h : ks.length = 0
  · have e : knL ks = zer32 := by unfold knL; rw [if_pos h]
    rw [e]
    have t : ((ks.length : Int) == 0) = true := by rw [h]; rfl
    clear h
    go_enter Tryd.func35, Tryd.ntmps35
    go_wp2_with fail
    refine NS.out.mono ?_
    rintro e w2 ⟨⟨a3, c3, g3, rfl, o3, p3, q3, r3⟩, n⟩
    go_wp2
    go_ret
    exact ⟨⟨a3, c3, rfl, Lq.of o3 p3 q3 zer32_byt (by rw [zer32_len]; decide)⟩, n⟩
  · have e : knL ks = ks := by unfold knL; rw [if_neg h]
    rw [e]
    have t : ((ks.length : Int) == 0) = false := beq_eq_false_iff_ne.2 (by omega)
    have L := hide h1
    clear h NS h1
    go_enter Tryd.func35, Tryd.ntmps35
    go_wp2
    go_ret
    exact ⟨⟨a, c, rfl, L.out⟩, Below.refl _ _⟩
theorem rw1 (w : World) (x : Sv) : RwV (w.alloc (.cells #[.slice x.1 x.2.1 x.2.2] 22)) w.heap.size [x] := fun i hi => by
  have h : (w.alloc (.cells #[.slice x.1 x.2.1 x.2.2] 22)).heap[w.heap.size]? = some (.cells #[.slice x.1 x.2.1 x.2.2] 22 (0, 0)) := by show (w.heap.push _)[w.heap.size]? = _; simp
  rw [cell_of_row _ _ _ _ _ _ h]
  obtain rfl : i = 0 := by simp at hi; omega
  rfl
theorem rw2 (w : World) (x y : Sv) : RwV (w.alloc (.cells #[.slice x.1 x.2.1 x.2.2, .slice y.1 y.2.1 y.2.2] 22)) w.heap.size [x, y] := fun i hi => by
  have h : (w.alloc (.cells #[.slice x.1 x.2.1 x.2.2, .slice y.1 y.2.1 y.2.2] 22)).heap[w.heap.size]? = some (.cells #[.slice x.1 x.2.1 x.2.2, .slice y.1 y.2.1 y.2.2] 22 (0, 0)) := by show (w.heap.push _)[w.heap.size]? = _; simp
  rw [cell_of_row _ _ _ _ _ _ h]
  obtain rfl | rfl : i = 0 ∨ i = 1 := by simp at hi; omega
  all_goals rfl
def al1 (w : World) (x : Value) : World := w.alloc (.cells #[x] 22)
def al2 (w : World) (x y : Value) : World := w.alloc (.cells #[x, y] 22)
theorem al1_up (w : World) (x : Value) : Below w.heap.size w (al1 w x) := (Below.refl _ _).alloc (Nat.le_refl _) _
theorem al2_up (w : World) (x y : Value) : Below w.heap.size w (al2 w x y) := (Below.refl _ _).alloc (Nat.le_refl _) _
theorem oth1 (a : Option Addr) (n c : Nat) (ys : List Int) : (if oth [(a, n, c)] = true then [] else ys) = if n = 32 then ys else [] := by
  unfold oth
  by_cases h : n = 32 <;> simp [h]
theorem oth2 (a a' : Option Addr) (n n' c c' : Nat) (ys : List Int) : (if oth [(a, n, c), (a', n', c')] = true then [] else ys) = if n = 32 ∧ n' = 32 then ys else [] := by
  unfold oth
  by_cases h : n = 32 <;> by_cases h' : n' = 32 <;> simp [h, h']
def eaA (p : List Int) : List Int := if (knL p).length = 32 then macL zer32 (knL p) else []
def hsA (ks xs : List Int) : List Int := if ks.length = 32 ∧ xs.length = 32 then macL (labA ks lbD hE 32) xs else []
def msA (ks : List Int) : List Int := if ks.length = 32 then macL (labA ks lbD hE 32) zer32 else []
def nxA (ks : List Int) : List Int := if ks.length = 32 then labA ks lbU [] 32 else []
def fmA (ks xs : List Int) : List Int := if ks.length = 32 ∧ xs.length = 32 then macL (labA ks lbF [] 32) xs else []
def tkA (ks xs : List Int) : List Int := if ks.length = 32 ∧ xs.length = 32 then labA ks lbT xs 32 else []
def bmA (p xs : List Int) : List Int := if (eaA p).length = 32 then macL (labA (labA (eaA p) lbB hE 32) lbF [] 32) (hashL32 xs) else []
set_option maxHeartbeats 1000000 in
theorem implHandshakeSecret_any (w : World) (hH : HasH w) {a a' : Option Addr} {c c' : Nat} {ks xs : List Int} (h1 : Lq w a c ks) (h2 : Lq w a' c' xs) :
    Calls Tryd.prog 31 #[.slice a ks.length c, .slice a' xs.length c'] w fun e w' => NewRow w.heap.size w' e .u8 (hsA ks xs) ∧ Below w.heap.size w w' := by
  have n1 := al2_up w (.slice a ks.length c) (.slice a' xs.length c')
  have T := takeMix_any _ w.heap.size [(a, ks.length, c), (a', xs.length, c')] (rw2 w (a, ks.length, c) (a', xs.length, c')) (by simp) (.agg #[.slice a ks.length c, .slice a' xs.length c']) (macL (labA ks lbD hE 32) xs) (fun _ => sMix_any _ (hH.up n1) (h1.up n1) (h2.up n1))
  rw [oth2, show (if ks.length = 32 ∧ xs.length = 32 then macL (labA ks lbD hE 32) xs else []) = hsA ks xs from rfl] at T
  have TH : Hid (Calls Tryd.prog 36 #[.func (.func 49) #[.agg #[.slice a ks.length c, .slice a' xs.length c']] #[], .slice (some ⟨w.heap.size, 0, none⟩) 2 2] (al2 w (.slice a ks.length c) (.slice a' xs.length c')) fun e w' => NewRow (al2 w (.slice a ks.length c) (.slice a' xs.length c')).heap.size w' e .u8 (hsA ks xs) ∧ Below (al2 w (.slice a ks.length c) (.slice a' xs.length c')).heap.size (al2 w (.slice a ks.length c) (.slice a' xs.length c')) w') := T
  have N1 := hide n1
  clear T h1 h2 n1 hH
  unfold al2 at TH N1
  generalize hsA ks xs = ys at *
  generalize ks.length = m at *
  generalize xs.length = m' at *
  go_enter Tryd.func31, Tryd.ntmps31
  go_wp2_with fail
  refine TH.out.mono ?_
  rintro e w1 ⟨⟨a3, c3, g3, rfl, o3, p3, q3, r3⟩, n⟩
  have z1 := N1.out.size
  go_wp2
  go_ret
  exact ⟨⟨a3, c3, g3, rfl, o3, p3, q3, by omega⟩, nxt N1.out n⟩
set_option maxHeartbeats 1000000 in
theorem implFinishedMac_any (w : World) (hH : HasH w) {a a' : Option Addr} {c c' : Nat} {ks xs : List Int} (h1 : Lq w a c ks) (h2 : Lq w a' c' xs) :
    Calls Tryd.prog 20 #[.slice a ks.length c, .slice a' xs.length c'] w fun e w' => NewRow w.heap.size w' e .u8 (fmA ks xs) ∧ Below w.heap.size w w' := by
  have n1 := al2_up w (.slice a ks.length c) (.slice a' xs.length c')
  have T := takeFinish_any _ w.heap.size [(a, ks.length, c), (a', xs.length, c')] (rw2 w (a, ks.length, c) (a', xs.length, c')) (by simp) (.agg #[.slice a ks.length c, .slice a' xs.length c']) (macL (labA ks lbF [] 32) xs) (fun _ => sFinish_any _ (hH.up n1) (h1.up n1) (h2.up n1))
  rw [oth2, show (if ks.length = 32 ∧ xs.length = 32 then macL (labA ks lbF [] 32) xs else []) = fmA ks xs from rfl] at T
  have TH : Hid (Calls Tryd.prog 36 #[.func (.func 43) #[.agg #[.slice a ks.length c, .slice a' xs.length c']] #[], .slice (some ⟨w.heap.size, 0, none⟩) 2 2] (al2 w (.slice a ks.length c) (.slice a' xs.length c')) fun e w' => NewRow (al2 w (.slice a ks.length c) (.slice a' xs.length c')).heap.size w' e .u8 (fmA ks xs) ∧ Below (al2 w (.slice a ks.length c) (.slice a' xs.length c')).heap.size (al2 w (.slice a ks.length c) (.slice a' xs.length c')) w') := T
  have N1 := hide n1
  clear T h1 h2 n1 hH
  unfold al2 at TH N1
  generalize fmA ks xs = ys at *
  generalize ks.length = m at *
  generalize xs.length = m' at *
  go_enter Tryd.func20, Tryd.ntmps20
  go_wp2_with fail
  refine TH.out.mono ?_
  rintro e w1 ⟨⟨a3, c3, g3, rfl, o3, p3, q3, r3⟩, n⟩
  have z1 := N1.out.size
  go_wp2
  go_ret
  exact ⟨⟨a3, c3, g3, rfl, o3, p3, q3, by omega⟩, nxt N1.out n⟩
set_option maxHeartbeats 1000000 in
theorem implTicketSecret_any (w : World) (hH : HasH w) {a a' : Option Addr} {c c' : Nat} {ks xs : List Int} (h1 : Lq w a c ks) (h2 : Lq w a' c' xs) :
    Calls Tryd.prog 22 #[.slice a ks.length c, .slice a' xs.length c'] w fun e w' => NewRow w.heap.size w' e .u8 (tkA ks xs) ∧ Below w.heap.size w w' := by
  have n1 := al2_up w (.slice a ks.length c) (.slice a' xs.length c')
  have T := takeTicket_any _ w.heap.size [(a, ks.length, c), (a', xs.length, c')] (rw2 w (a, ks.length, c) (a', xs.length, c')) (by simp) (.agg #[.slice a ks.length c, .slice a' xs.length c']) (labA ks lbT xs 32) (fun _ => sTicket_any _ (hH.up n1) (h1.up n1) (h2.up n1))
  rw [oth2, show (if ks.length = 32 ∧ xs.length = 32 then labA ks lbT xs 32 else []) = tkA ks xs from rfl] at T
  have TH : Hid (Calls Tryd.prog 36 #[.func (.func 44) #[.agg #[.slice a ks.length c, .slice a' xs.length c']] #[], .slice (some ⟨w.heap.size, 0, none⟩) 2 2] (al2 w (.slice a ks.length c) (.slice a' xs.length c')) fun e w' => NewRow (al2 w (.slice a ks.length c) (.slice a' xs.length c')).heap.size w' e .u8 (tkA ks xs) ∧ Below (al2 w (.slice a ks.length c) (.slice a' xs.length c')).heap.size (al2 w (.slice a ks.length c) (.slice a' xs.length c')) w') := T
  have N1 := hide n1
  clear T h1 h2 n1 hH
  unfold al2 at TH N1
  generalize tkA ks xs = ys at *
  generalize ks.length = m at *
  generalize xs.length = m' at *
  go_enter Tryd.func22, Tryd.ntmps22
  go_wp2_with fail
  refine TH.out.mono ?_
  rintro e w1 ⟨⟨a3, c3, g3, rfl, o3, p3, q3, r3⟩, n⟩
  have z1 := N1.out.size
  go_wp2
  go_ret
  exact ⟨⟨a3, c3, g3, rfl, o3, p3, q3, by omega⟩, nxt N1.out n⟩
set_option maxHeartbeats 1000000 in
theorem implNextSecret_any (w : World) (hH : HasH w) {a : Option Addr} {c : Nat} {ks : List Int} (h1 : Lq w a c ks) :
    Calls Tryd.prog 18 #[.slice a ks.length c] w fun e w' => NewRow w.heap.size w' e .u8 (nxA ks) ∧ Below w.heap.size w w' := by
  have n1 := al1_up w (.slice a ks.length c)
  have T := takeUpdate_any _ w.heap.size [(a, ks.length, c)] (rw1 w (a, ks.length, c)) (by simp) (.agg #[.slice a ks.length c, .slice none 0 0]) (labA ks lbU [] 32) (fun _ => sUpdate_any _ (hH.up n1) (.slice none 0 0) (h1.up n1))
  rw [oth1, show (if ks.length = 32 then labA ks lbU [] 32 else []) = nxA ks from rfl] at T
  have TH : Hid (Calls Tryd.prog 36 #[.func (.func 40) #[.agg #[.slice a ks.length c, .slice none 0 0]] #[], .slice (some ⟨w.heap.size, 0, none⟩) 1 1] (al1 w (.slice a ks.length c)) fun e w' => NewRow (al1 w (.slice a ks.length c)).heap.size w' e .u8 (nxA ks) ∧ Below (al1 w (.slice a ks.length c)).heap.size (al1 w (.slice a ks.length c)) w') := T
  have N1 := hide n1
  clear T h1 n1 hH
  unfold al1 at TH N1
  generalize nxA ks = ys at *
  generalize ks.length = m at *
  go_enter Tryd.func18, Tryd.ntmps18
  go_wp2_with fail
  refine TH.out.mono ?_
  rintro e w1 ⟨⟨a3, c3, g3, rfl, o3, p3, q3, r3⟩, n⟩
  have z1 := N1.out.size
  go_wp2
  go_ret
  exact ⟨⟨a3, c3, g3, rfl, o3, p3, q3, by omega⟩, nxt N1.out n⟩
set_option maxHeartbeats 1000000 in
theorem implMasterSecret_any (w : World) (hH : HasH w) {a : Option Addr} {c : Nat} {ks : List Int} (h1 : Lq w a c ks) :
    Calls Tryd.prog 29 #[.slice a ks.length c] w fun e w' => NewRow w.heap.size w' e .u8 (msA ks) ∧ Below w.heap.size w w' := by
  have NS := hide (noSecret_any w)
  have TA : ∀ w1 (n0 : Below w.heap.size w w1) a2 c2 (h2 : Lq w1 a2 c2 zer32), Hid (Calls Tryd.prog 36 #[.func (.func 49) #[.agg #[.slice a ks.length c, .slice a2 zer32.length c2]] #[], .slice (some ⟨w1.heap.size, 0, none⟩) 1 1] (w1.alloc (.cells #[.slice a ks.length c] 22)) fun e w' => NewRow w.heap.size w' e .u8 (msA ks) ∧ Below w.heap.size w w') := by
    intro w1 n0 a2 c2 h2
    show Calls _ _ _ _ _
    have n1 := al1_up w1 (.slice a ks.length c)
    have T := takeMix_any _ w1.heap.size [(a, ks.length, c)] (rw1 w1 (a, ks.length, c)) (by simp) (.agg #[.slice a ks.length c, .slice a2 zer32.length c2]) (macL (labA ks lbD hE 32) zer32) (fun _ => sMix_any _ (hH.up (nxt n0 n1)) (h1.up (nxt n0 n1)) (h2.up n1))
    rw [oth1, show (if ks.length = 32 then macL (labA ks lbD hE 32) zer32 else []) = msA ks from rfl] at T
    refine T.mono ?_
    rintro e w2 ⟨r, n2⟩
    have z0 := n0.size
    have z1 := n1.size
    exact ⟨r.low (Nat.le_trans z0 z1), nxt (nxt n0 n1) n2⟩
  clear h1 hH
  generalize msA ks = ys at *
  generalize ks.length = m at *
  rw [zer32_len] at TA
  have ZL := hide zer32_len
  go_enter Tryd.func29, Tryd.ntmps29
  go_wp2_with fail
  refine NS.out.mono ?_
  rintro e w1 ⟨⟨a3, c3, g3, rfl, o3, p3, q3, r3⟩, n⟩
  have T := TA w1 n a3 c3 (Lq.of o3 p3 q3 zer32_byt (by rw [zer32_len]; decide))
  rw [← ZL.out] at T
  clear TA o3 p3 q3 NS
  generalize zer32.length = m2 at *
  go_wp2_with fail
  refine T.out.mono ?_
  rintro e w2 ⟨⟨a4, c4, g4, rfl, o4, p4, q4, r4⟩, n4⟩
  go_wp2
  go_ret
  exact ⟨⟨a4, c4, g4, rfl, o4, p4, q4, r4⟩, n4⟩
set_option maxHeartbeats 1000000 in
theorem implEarlySecret_any (w : World) (hH : HasH w) {a : Option Addr} {c : Nat} {ks : List Int} (h1 : Lq w a c ks) :
    Calls Tryd.prog 13 #[.slice a ks.length c] w fun e w' => NewRow w.heap.size w' e .u8 (eaA ks) ∧ Below w.heap.size w w' := by
  have KK := hide (knownKey_any w h1)
  have NS := fun W => hide (noSecret_any W)
  have TA : ∀ w1 (n0 : Below w.heap.size w w1) a2 c2 (h2 : Lq w1 a2 c2 zer32) a1 c1 (h1 : Lq w1 a1 c1 (knL ks)), Hid (Calls Tryd.prog 36 #[.func (.func 38) #[.agg #[.slice a2 zer32.length c2, .slice a1 (knL ks).length c1]] #[], .slice (some ⟨w1.heap.size, 0, none⟩) 1 1] (w1.alloc (.cells #[.slice a1 (knL ks).length c1] 22)) fun e w' => NewRow w.heap.size w' e .u8 (eaA ks) ∧ Below w.heap.size w w') := by
    intro w1 n0 a2 c2 h2 a1 c1 h1
    show Calls _ _ _ _ _
    have n1 := al1_up w1 (.slice a1 (knL ks).length c1)
    have T := takeExtract_any _ w1.heap.size [(a1, (knL ks).length, c1)] (rw1 w1 (a1, (knL ks).length, c1)) (by simp) (.agg #[.slice a2 zer32.length c2, .slice a1 (knL ks).length c1]) (macL zer32 (knL ks)) (fun _ => sExtract_any _ (hH.up (nxt n0 n1)) (h2.up n1) (h1.up n1))
    rw [oth1, show (if (knL ks).length = 32 then macL zer32 (knL ks) else []) = eaA ks from rfl] at T
    refine T.mono ?_
    rintro e w2 ⟨r, n2⟩
    have z0 := n0.size
    have z1 := n1.size
    exact ⟨r.low (Nat.le_trans z0 z1), nxt (nxt n0 n1) n2⟩
  clear h1 hH
  generalize eaA ks = ys at *
  generalize ks.length = m at *
  generalize knL ks = kk at *
  go_enter Tryd.func13, Tryd.ntmps13
  go_wp2_with fail
  refine KK.out.mono ?_
  rintro e w1 ⟨⟨a1, c1, rfl, L1⟩, n1⟩
  have NS1 := NS w1
  have L1 := hide L1
  clear NS KK
  go_wp2_with fail
  refine NS1.out.mono ?_
  rintro e w2 ⟨⟨a3, c3, g3, rfl, o3, p3, q3, r3⟩, n⟩
  have T := TA w2 (nxt n1 n) a3 c3 (Lq.of o3 p3 q3 zer32_byt (by rw [zer32_len]; decide)) a1 c1 (L1.out.up n)
  clear TA o3 p3 q3 NS1 L1
  generalize zer32.length = m2 at *
  generalize kk.length = m3 at *
  go_wp2_with fail
  refine T.out.mono ?_
  rintro e w2 ⟨⟨a4, c4, g4, rfl, o4, p4, q4, r4⟩, n4⟩
  go_wp2
  go_ret
  exact ⟨⟨a4, c4, g4, rfl, o4, p4, q4, r4⟩, n4⟩
theorem eaA_len (p : List Int) : (eaA p).length ≤ 32 := by
  unfold eaA
  split
  · rw [macL_len]
    exact Nat.le_refl _
  · simp
theorem eaA_byt (p : List Int) : Byt (eaA p) := by
  unfold eaA
  split
  · exact macL_byt _ _
  · exact byt_nil
set_option maxHeartbeats 1000000 in
theorem implBinderMac_any (w : World) (hH : HasH w) {a a' : Option Addr} {c c' : Nat} {ks xs : List Int} (h1 : Lq w a c ks) (h2 : Lq w a' c' xs) :
    Calls Tryd.prog 33 #[.slice a ks.length c, .slice a' xs.length c'] w fun e w' => NewRow w.heap.size w' e .u8 (bmA ks xs) ∧ Below w.heap.size w w' := by
  have KK := hide (implEarlySecret_any w hH h1)
  have NS : ∀ W, Below w.heap.size w W → Hid (Calls Tryd.prog 51 #[.slice a' xs.length c'] W fun e w' => NewRow W.heap.size w' e .u8 (hashL32 xs) ∧ Below W.heap.size W w') := fun W n => by
    obtain ⟨⟨g, r⟩, b, p, q, l⟩ := h2.up n
    exact implHash_32 W g a' c' xs r b q (by omega) (hH.1.up n) (hH.2.up n)
  have TA : ∀ w1 (n0 : Below w.heap.size w w1) a2 c2 (h2 : Lq w1 a2 c2 (hashL32 xs)) a1 c1 (h1 : Lq w1 a1 c1 (eaA ks)), Hid (Calls Tryd.prog 36 #[.func (.func 52) #[.agg #[.slice a1 (eaA ks).length c1, .slice a2 (hashL32 xs).length c2]] #[], .slice (some ⟨w1.heap.size, 0, none⟩) 1 1] (w1.alloc (.cells #[.slice a1 (eaA ks).length c1] 22)) fun e w' => NewRow w.heap.size w' e .u8 (bmA ks xs) ∧ Below w.heap.size w w') := by
    intro w1 n0 a2 c2 h2 a1 c1 h1
    show Calls _ _ _ _ _
    have n1 := al1_up w1 (.slice a1 (eaA ks).length c1)
    have T := takeBind_any _ w1.heap.size [(a1, (eaA ks).length, c1)] (rw1 w1 (a1, (eaA ks).length, c1)) (by simp) (.agg #[.slice a1 (eaA ks).length c1, .slice a2 (hashL32 xs).length c2]) (macL (labA (labA (eaA ks) lbB hE 32) lbF [] 32) (hashL32 xs)) (fun _ => sBind_any _ (hH.up (nxt n0 n1)) (h1.up n1) (h2.up n1))
    rw [oth1, show (if (eaA ks).length = 32 then macL (labA (labA (eaA ks) lbB hE 32) lbF [] 32) (hashL32 xs) else []) = bmA ks xs from rfl] at T
    refine T.mono ?_
    rintro e w2 ⟨r, n2⟩
    have z0 := n0.size
    have z1 := n1.size
    exact ⟨r.low (Nat.le_trans z0 z1), nxt (nxt n0 n1) n2⟩
  clear h1 hH h2
  have EL := hide (eaA_len ks)
  have EB := hide (eaA_byt ks)
  have HL := hide (hash_len32 xs)
  have HB := hide (hash_byt32 xs)
  generalize bmA ks xs = ys at *
  generalize ks.length = m at *
  generalize eaA ks = kk at *
  generalize hashL32 xs = hh at *
  generalize xs.length = m1 at *
  go_enter Tryd.func33, Tryd.ntmps33
  go_wp2_with fail
  refine KK.out.mono ?_
  rintro e w1 ⟨⟨a1, c1, g1, rfl, o1, p1, q1, r1⟩, n1⟩
  have NS1 := NS w1 n1
  have L1 := hide (Lq.of o1 p1 q1 EB.out (by have := EL.out; omega))
  clear NS KK o1 p1 q1
  go_wp2_with fail
  refine NS1.out.mono ?_
  rintro e w2 ⟨⟨a3, c3, g3, rfl, o3, p3, q3, r3⟩, n⟩
  have T := TA w2 (nxt n1 n) a3 c3 (Lq.of o3 p3 q3 HB.out (by have := HL.out; omega)) a1 c1 (L1.out.up n)
  clear TA o3 p3 q3 NS1 L1 HL HB EL EB
  generalize hh.length = m2 at *
  generalize kk.length = m3 at *
  go_wp2_with fail
  refine T.out.mono ?_
  rintro e w2 ⟨⟨a4, c4, g4, rfl, o4, p4, q4, r4⟩, n4⟩
  go_wp2
  go_ret
  exact ⟨⟨a4, c4, g4, rfl, o4, p4, q4, r4⟩, n4⟩
end Go.Proofs.YtnfciobpfiibcaaDoor

/-
  The model's schedule (written by gens/kss.py).
-/
namespace Go.Proofs.YtnfciobpfiibcaaDoor
set_option maxRecDepth 100000
open Go Go.RowKit

/-- 32 bytes 0 are made. -/
theorem step_make32 {ops : Array Oper} {Q : Exit → Act → World → Prop} {md : Region.Mode} {F : Nat → Fact} {a0 : Act} {w0 : World} {i : Nat} {o : Oper} (hi : ops[i]? = some o) (hop : o.op = .makeSlice 22 (.const (.int .i64 32)) (.const (.int .i64 32))) (hF : F i = RNh w0.heap.size zer32) : StepOk Tryd.prog md ops Q F a0 w0 i := by
  obtain ⟨i0, h1, hz0, hz1, hz2⟩ := info_parts Tryd.info5
  refine step_grow hi fun a w _ hw _ => ?_
  obtain ⟨w', hrun, hown, hgrow⟩ := run_make_full (P := Tryd.prog) w w.heap.size 22 5 i0 (.int .u8 0) 1 Tryd.underlying22 h1 hz0 hz1 .i64 .i64 32 (by rw [hz2]; decide) (by unfold maxLen; decide) (Nat.le_refl _)
  have hB0 := Blk.of_made hown
  have hN0 : Below w.heap.size w w' := (Below.refl _ _).grown hgrow (Nat.le_refl _) (by simp)
  have hrun' : (Instr.makeSlice 22 (.int .i64 32) (.int .i64 32)).run Tryd.prog w = .ok (.slice (some ⟨w.heap.size, 0, none⟩) 32 32) w' := hrun
  refine ⟨.slice (some ⟨w.heap.size, 0, none⟩) 32 32, w', by simp [execOp, hop, hrun', Act.eval], hN0, ?_⟩
  rw [hF]
  exact ⟨some ⟨w.heap.size, 0, none⟩, 32, w.heap.size, by rw [zer32_len], hB0.own0, fun h => by simp at h, by rw [zer32_len]; exact Nat.le_refl _, hw.size⟩
theorem step_asg {ops : Array Oper} {Q : Exit → Act → World → Prop} {md : Region.Mode} {F : Nat → Fact} {a0 : Act} {w0 : World} {i : Nat} {o : Oper} {B : Nat} {ys : List Int} (hi : ops[i]? = some o) (p j : Nat) (hop : o.op = .assign (.tmp p)) (hj : waits md ops i j p = true) (hFj : F j = RNh B ys) (hFi : F i = RNh B ys) : StepOk Tryd.prog md ops Q F a0 w0 i := by
  refine step_pure hi fun a w _ _ hf => ?_
  have h1 := hf j p hj
  rw [hFj] at h1
  obtain ⟨a1, c1, g1, e7, o1, p1, q1, r1⟩ := h1
  have x1 : a.eval (.tmp p) = .slice a1 ys.length c1 := e7
  exact ⟨.slice a1 ys.length c1, by simp [execOp, hop, x1], by rw [hFi]; exact ⟨a1, c1, g1, rfl, o1, p1, q1, r1⟩⟩
set_option maxHeartbeats 1000000 in
theorem l14All_any (w : World) (a a' : Option Addr) (n n' c c' : Nat) :
    Calls Tryd.prog 41 #[.slice a n c, .slice a' n' c'] w fun e w' => e = .returned (.bool (decide (n = 32 ∧ n' = 32))) ∧ w' = w := by
  by_cases h : n = 32
  · subst h
    by_cases h' : n' = 32
    · subst h'
      go_enter Tryd.func41, Tryd.ntmps41
      go_wp2
      go_ret
      exact ⟨rfl, rfl⟩
    · have t : ((n' : Int) == 32) = false := beq_eq_false_iff_ne.2 (by omega)
      have t2 : decide (32 = 32 ∧ n' = 32) = false := decide_eq_false (by omega)
      rw [t2]
      go_enter Tryd.func41, Tryd.ntmps41
      go_wp2
      go_ret
      exact ⟨rfl, rfl⟩
  · have t : ((n : Int) == 32) = false := beq_eq_false_iff_ne.2 (by omega)
    have t2 : decide (n = 32 ∧ n' = 32) = false := decide_eq_false (by omega)
    rw [t2]
    go_enter Tryd.func41, Tryd.ntmps41
    go_wp2
    go_ret
    exact ⟨rfl, rfl⟩
def al0 (w : World) : World := w.alloc (.cells #[] 5)
theorem al0_up (w : World) : Below w.heap.size w (al0 w) := (Below.refl _ _).alloc (Nat.le_refl _) _
set_option maxHeartbeats 1000000 in
theorem l14Nothing_any (w : World) :
    Calls Tryd.prog 48 #[] w fun e w' => NewRow w.heap.size w' e .u8 hE ∧ Below w.heap.size w w' := by
  have n1 := al0_up w
  have C : Hid (Calls Tryd.prog 50 #[.slice (some ⟨w.heap.size, 0, none⟩) 0 0] (al0 w) fun e w' => NewRow (al0 w).heap.size w' e .u8 hE ∧ Below (al0 w).heap.size (al0 w) w') := specHash_L (al0 w) 0 (some ⟨w.heap.size, 0, none⟩) 0 [] (Rd.nil _ _ _ _) byt_nil (fun _ => rfl) (by simp)
  have N1 := hide n1
  clear n1
  unfold al0 at C N1
  generalize hE = ys at *
  go_enter Tryd.func48, Tryd.ntmps48
  go_wp2_with fail
  refine C.out.mono ?_
  rintro e w1 ⟨⟨a3, c3, g3, rfl, o3, p3, q3, r3⟩, n⟩
  have z1 := N1.out.size
  go_wp2
  go_ret
  exact ⟨⟨a3, c3, g3, rfl, o3, p3, q3, by omega⟩, nxt N1.out n⟩
/-- ExpandLabel with no context. -/
theorem specLab0 (w : World) {a : Option Addr} {c : Nat} {ks : List Int} (h : Lq (al0 w) a c ks) (s : ByteArray) (hs : s.size ≤ 1048576) (n : Int) : Hid (Calls Tryd.prog 39 #[.slice a ks.length c, .string s, .slice (some ⟨w.heap.size, 0, none⟩) 0 0, .int .i64 n] (al0 w) fun e w' => NewRow (al0 w).heap.size w' e .u8 (labA ks s [] n) ∧ Below (al0 w).heap.size (al0 w) w') := by
  obtain ⟨⟨g, r⟩, b, p, q, l⟩ := h
  exact specLabel_any (al0 w) g a c ks r b p l s hs 0 (some ⟨w.heap.size, 0, none⟩) 0 [] (Rd.nil _ _ _ _) byt_nil (fun _ => rfl) (by simp) n
theorem specLabQ (w : World) {a a' : Option Addr} {c c' : Nat} {ks xs : List Int} (h : Lq w a c ks) (h' : Lq w a' c' xs) (s : ByteArray) (hs : s.size ≤ 1048576) (n : Int) : Hid (Calls Tryd.prog 39 #[.slice a ks.length c, .string s, .slice a' xs.length c', .int .i64 n] w fun e w' => NewRow w.heap.size w' e .u8 (labA ks s xs n) ∧ Below w.heap.size w w') := by
  obtain ⟨⟨g, r⟩, b, p, q, l⟩ := h
  obtain ⟨⟨g', r'⟩, b', p', q', l'⟩ := h'
  exact specLabel_any w g a c ks r b p l s hs g' a' c' xs r' b' p' l' n
theorem specMacQ (w : World) {a a' : Option Addr} {c c' : Nat} {ks xs : List Int} (h : Lq w a c ks) (h' : Lq w a' c' xs) : Hid (Calls Tryd.prog 42 #[.slice a ks.length c, .slice a' xs.length c'] w fun e w' => NewRow w.heap.size w' e .u8 (macL ks xs) ∧ Below w.heap.size w w') := by
  obtain ⟨⟨g, r⟩, b, p, q, l⟩ := h
  obtain ⟨⟨g', r'⟩, b', p', q', l'⟩ := h'
  exact specMac_any w g a c ks r b p l g' a' c' xs r' b' p' (by omega)
theorem specExtQ (w : World) {a a' : Option Addr} {c c' : Nat} {ks xs : List Int} (h : Lq w a c ks) (h' : Lq w a' c' xs) : Hid (Calls Tryd.prog 34 #[.slice a ks.length c, .slice a' xs.length c'] w fun e w' => NewRow w.heap.size w' e .u8 (macL ks xs) ∧ Below w.heap.size w w') := by
  obtain ⟨⟨g, r⟩, b, p, q, l⟩ := h
  obtain ⟨⟨g', r'⟩, b', p', q', l'⟩ := h'
  exact specExtract_any w g a c ks r b p l g' a' c' xs r' b' p' (by omega)
theorem specDerQ (w : World) {a a' : Option Addr} {c c' : Nat} {ks xs : List Int} (h : Lq w a c ks) (h' : Lq w a' c' xs) (s : ByteArray) (hs : s.size ≤ 1048576) : Hid (Calls Tryd.prog 47 #[.slice a ks.length c, .string s, .slice a' xs.length c'] w fun e w' => NewRow w.heap.size w' e .u8 (labA ks s xs 32) ∧ Below w.heap.size w w') := by
  obtain ⟨⟨g, r⟩, b, p, q, l⟩ := h
  obtain ⟨⟨g', r'⟩, b', p', q', l'⟩ := h'
  exact specDerive_any w g a c ks r b p l s hs g' a' c' xs r' b' p' l'
theorem labQ {w : World} {a : Option Addr} {c g : Nat} {ks : List Int} {s : ByteArray} {xs : List Int} {n : Int} (o : Own w g a .u8 (labA ks s xs n)) (p : a = none → c = 0) (q : (labA ks s xs n).length ≤ c) : Lq w a c (labA ks s xs n) := Lq.of o p q (labA_byt _ _ _ _) (Nat.le_trans (labA_len _ _ _ _) (by decide))
theorem hEQ {w : World} {a : Option Addr} {c g : Nat} (o : Own w g a .u8 hE) (p : a = none → c = 0) (q : hE.length ≤ c) : Lq w a c hE := Lq.of o p q hE_byt (by rw [hE_len]; decide)
set_option maxHeartbeats 1000000 in
theorem specFinishedMac_any (w : World) {a a' : Option Addr} {c c' : Nat} {ks xs : List Int} (h1 : Lq w a c ks) (h2 : Lq w a' c' xs) :
    Calls Tryd.prog 19 #[.slice a ks.length c, .slice a' xs.length c'] w fun e w' => NewRow w.heap.size w' e .u8 (fmA ks xs) ∧ Below w.heap.size w w' := by
  have AL := hide (l14All_any w a a' ks.length xs.length c c')
  by_cases h : ks.length = 32 ∧ xs.length = 32
  rotate_left
  · have t : decide (ks.length = 32 ∧ xs.length = 32) = false := decide_eq_false h
    rw [t] at AL
    have e : fmA ks xs = [] := by unfold fmA; rw [if_neg h]
    rw [e]
    clear h t
    go_enter Tryd.func19, Tryd.ntmps19
    go_wp2_with fail
    refine AL.out.mono ?_
    rintro e w1 ⟨rfl, rfl⟩
    go_wp2
    go_ret
    exact ⟨newRow_e _ _, al0_up _⟩
  have t : decide (ks.length = 32 ∧ xs.length = 32) = true := decide_eq_true h
  rw [t] at AL
  have e : fmA ks xs = macL (labA ks lbF [] 32) xs := by unfold fmA; rw [if_pos h]
  rw [e]
  clear h t
  have n1 := al0_up w
  have LB := specLab0 w (h1.up n1) lbF (by decide) 32
  have MC := fun W (n : Below w.heap.size w W) a1 c1 (h : Lq W a1 c1 (labA ks lbF [] 32)) => specMacQ W h (h2.up n)
  have N1 := hide n1
  clear h1 n1 h2
  have LQ := fun (W : World) (a : Option Addr) (c g : Nat) (o : Own W g a .u8 (labA ks lbF [] 32)) p q => hide (labQ (c := c) o p q)
  unfold al0 at LB N1
  generalize labA ks lbF [] 32 = ls at *
  generalize macL ls xs = ys at *
  generalize ks.length = m at *
  generalize xs.length = m' at *
  unfold lbF at LB
  go_enter Tryd.func19, Tryd.ntmps19
  go_wp2_with fail
  refine AL.out.mono ?_
  rintro e w1 ⟨rfl, rfl⟩
  go_wp2_with fail
  refine LB.out.mono ?_
  rintro e w2 ⟨⟨a3, c3, g3, rfl, o3, p3, q3, r3⟩, n⟩
  have n2 := nxt N1.out n
  have M := MC w2 n2 a3 c3 (LQ w2 a3 c3 g3 o3 p3 q3).out
  clear MC LQ o3 p3 q3
  go_wp2_with fail
  refine M.out.mono ?_
  rintro e w3 ⟨⟨a4, c4, g4, rfl, o4, p4, q4, r4⟩, n4⟩
  have z := n2.size
  go_wp2
  go_ret
  exact ⟨⟨a4, c4, g4, rfl, o4, p4, q4, by omega⟩, nxt n2 n4⟩
set_option maxHeartbeats 1000000 in
theorem specTicketSecret_any (w : World) {a a' : Option Addr} {c c' : Nat} {ks xs : List Int} (h1 : Lq w a c ks) (h2 : Lq w a' c' xs) :
    Calls Tryd.prog 21 #[.slice a ks.length c, .slice a' xs.length c'] w fun e w' => NewRow w.heap.size w' e .u8 (tkA ks xs) ∧ Below w.heap.size w w' := by
  have AL := hide (l14All_any w a a' ks.length xs.length c c')
  by_cases h : ks.length = 32 ∧ xs.length = 32
  rotate_left
  · have t : decide (ks.length = 32 ∧ xs.length = 32) = false := decide_eq_false h
    rw [t] at AL
    have e : tkA ks xs = [] := by unfold tkA; rw [if_neg h]
    rw [e]
    clear h t
    go_enter Tryd.func21, Tryd.ntmps21
    go_wp2_with fail
    refine AL.out.mono ?_
    rintro e w1 ⟨rfl, rfl⟩
    go_wp2
    go_ret
    exact ⟨newRow_e _ _, al0_up _⟩
  have t : decide (ks.length = 32 ∧ xs.length = 32) = true := decide_eq_true h
  rw [t] at AL
  have e : tkA ks xs = labA ks lbT xs 32 := by unfold tkA; rw [if_pos h]
  rw [e]
  clear h t
  have LB := specLabQ w h1 h2 lbT (by decide) 32
  clear h1 h2
  generalize labA ks lbT xs 32 = ys at *
  generalize ks.length = m at *
  generalize xs.length = m' at *
  unfold lbT at LB
  go_enter Tryd.func21, Tryd.ntmps21
  go_wp2_with fail
  refine AL.out.mono ?_
  rintro e w1 ⟨rfl, rfl⟩
  go_wp2_with fail
  refine LB.out.mono ?_
  rintro e w3 ⟨⟨a4, c4, g4, rfl, o4, p4, q4, r4⟩, n4⟩
  go_wp2
  go_ret
  exact ⟨⟨a4, c4, g4, rfl, o4, p4, q4, r4⟩, n4⟩
set_option maxHeartbeats 1000000 in
theorem specHandshakeSecret_any (w : World) {a a' : Option Addr} {c c' : Nat} {ks xs : List Int} (h1 : Lq w a c ks) (h2 : Lq w a' c' xs) :
    Calls Tryd.prog 30 #[.slice a ks.length c, .slice a' xs.length c'] w fun e w' => NewRow w.heap.size w' e .u8 (hsA ks xs) ∧ Below w.heap.size w w' := by
  have AL := hide (l14All_any w a a' ks.length xs.length c c')
  by_cases h : ks.length = 32 ∧ xs.length = 32
  rotate_left
  · have t : decide (ks.length = 32 ∧ xs.length = 32) = false := decide_eq_false h
    rw [t] at AL
    have e : hsA ks xs = [] := by unfold hsA; rw [if_neg h]
    rw [e]
    clear h t
    go_enter Tryd.func30, Tryd.ntmps30
    go_wp2_with fail
    refine AL.out.mono ?_
    rintro e w1 ⟨rfl, rfl⟩
    go_wp2
    go_ret
    exact ⟨newRow_e _ _, al0_up _⟩
  have t : decide (ks.length = 32 ∧ xs.length = 32) = true := decide_eq_true h
  rw [t] at AL
  have e : hsA ks xs = macL (labA ks lbD hE 32) xs := by unfold hsA; rw [if_pos h]
  rw [e]
  clear h t
  have NO := hide (l14Nothing_any w)
  have DE := fun W (n : Below w.heap.size w W) a1 c1 (h : Lq W a1 c1 hE) => specDerQ W (h1.up n) h lbD (by decide)
  have EX := fun W (n : Below w.heap.size w W) a1 c1 (h : Lq W a1 c1 (labA ks lbD hE 32)) => specExtQ W h (h2.up n)
  have LQ := fun (W : World) (a : Option Addr) (c g : Nat) (o : Own W g a .u8 (labA ks lbD hE 32)) p q => hide (labQ (c := c) o p q)
  have HQ := fun (W : World) (a : Option Addr) (c g : Nat) (o : Own W g a .u8 hE) p q => hide (hEQ (c := c) o p q)
  clear h1 h2
  generalize labA ks lbD hE 32 = ls at *
  generalize hE = hh at *
  generalize macL ls xs = ys at *
  generalize ks.length = m at *
  generalize xs.length = m' at *
  unfold lbD at DE
  go_enter Tryd.func30, Tryd.ntmps30
  go_wp2_with fail
  refine AL.out.mono ?_
  rintro e w1 ⟨rfl, rfl⟩
  go_wp2_with fail
  refine NO.out.mono ?_
  rintro e w2 ⟨⟨a2, c2, g2, rfl, o2, p2, q2, r2⟩, n2⟩
  have D := DE w2 n2 a2 c2 (HQ w2 a2 c2 g2 o2 p2 q2).out
  clear DE HQ o2 p2 q2
  go_wp2_with fail
  refine D.out.mono ?_
  rintro e w3 ⟨⟨a3, c3, g3, rfl, o3, p3, q3, r3⟩, n3⟩
  have N3 := nxt n2 n3
  have M := EX w3 N3 a3 c3 (LQ w3 a3 c3 g3 o3 p3 q3).out
  clear EX LQ o3 p3 q3
  go_wp2_with fail
  refine M.out.mono ?_
  rintro e w4 ⟨⟨a4, c4, g4, rfl, o4, p4, q4, r4⟩, n4⟩
  have z := N3.size
  go_wp2
  go_ret
  exact ⟨⟨a4, c4, g4, rfl, o4, p4, q4, by omega⟩, nxt N3 n4⟩
set_option maxHeartbeats 1000000 in
theorem specNextSecret_any (w : World) {a : Option Addr} {c : Nat} {ks : List Int} (h1 : Lq w a c ks) :
    Calls Tryd.prog 17 #[.slice a ks.length c] w fun e w' => NewRow w.heap.size w' e .u8 (nxA ks) ∧ Below w.heap.size w w' := by
  by_cases h : ks.length = 32
  rotate_left
  · have t : ((ks.length : Int) != 32) = true := bne_iff_ne.2 (by omega)
    have e : nxA ks = [] := by unfold nxA; rw [if_neg h]
    rw [e]
    clear h h1
    go_enter Tryd.func17, Tryd.ntmps17
    go_wp2
    go_ret
    exact ⟨newRow_e _ _, al0_up _⟩
  have t : ((ks.length : Int) != 32) = false := by rw [h]; rfl
  have e : nxA ks = labA ks lbU [] 32 := by unfold nxA; rw [if_pos h]
  rw [e]
  clear h
  have n1 := al0_up w
  have LB := specLab0 w (h1.up n1) lbU (by decide) 32
  have N1 := hide n1
  clear h1 n1
  unfold al0 at LB N1
  generalize labA ks lbU [] 32 = ys at *
  generalize ks.length = m at *
  unfold lbU at LB
  go_enter Tryd.func17, Tryd.ntmps17
  go_wp2_with fail
  refine LB.out.mono ?_
  rintro e w2 ⟨⟨a3, c3, g3, rfl, o3, p3, q3, r3⟩, n⟩
  have z := N1.out.size
  go_wp2
  go_ret
  exact ⟨⟨a3, c3, g3, rfl, o3, p3, q3, by omega⟩, nxt N1.out n⟩
set_option maxHeartbeats 1000000 in
theorem specMasterSecret_any (w : World) {a : Option Addr} {c : Nat} {ks : List Int} (h1 : Lq w a c ks) :
    Calls Tryd.prog 28 #[.slice a ks.length c] w fun e w' => NewRow w.heap.size w' e .u8 (msA ks) ∧ Below w.heap.size w w' := by
  by_cases h : ks.length = 32
  rotate_left
  · have t : ((ks.length : Int) != 32) = true := bne_iff_ne.2 (by omega)
    have e : msA ks = [] := by unfold msA; rw [if_neg h]
    rw [e]
    clear h h1
    go_enter Tryd.func28, Tryd.ntmps28
    go_wp2
    go_ret
    exact ⟨newRow_e _ _, al0_up _⟩
  have t : ((ks.length : Int) != 32) = false := by rw [h]; rfl
  have e : msA ks = macL (labA ks lbD hE 32) zer32 := by unfold msA; rw [if_pos h]
  rw [e]
  clear h
  go_enter Tryd.func28, Tryd.ntmps28
  go_upto_region 3 with fail
  refine region_end 6 (fun i => [Fact.eq (.slice a ks.length c), RNh w.heap.size hE, RNh w.heap.size (labA ks lbD hE 32), RNh w.heap.size zer32, RNh w.heap.size (macL (labA ks lbD hE 32) zer32), RNh w.heap.size (macL (labA ks lbD hE 32) zer32)].getD i Fact.no) (by kernel_rfl) (by kernel_rfl) rfl ?_ ?_
  · intro i hi
    obtain rfl | rfl | rfl | rfl | rfl | rfl : i = 0 ∨ i = 1 ∨ i = 2 ∨ i = 3 ∨ i = 4 ∨ i = 5 := by omega
    · refine step_pure rfl fun A ww hb hw hf => ?_
      have e1 : A.tmps[0]?.getD undef = .slice a ks.length c := gdv (hb.2.2 0 (by kernel_rfl))
      exact ⟨.slice a ks.length c, by simp [go_sem, e1], rfl⟩
    · refine step_callv rfl 48 _ _ rfl (by kernel_rfl) fun A ww hb hw hf => ?_
      exact (l14Nothing_any ww).mono (by rintro r w' ⟨⟨a1, c1, g1, rfl, o1, p1, q1, r1⟩, n⟩; exact ⟨_, rfl, n, a1, c1, g1, rfl, o1, p1, q1, Nat.le_trans hw.size r1⟩)
    · refine step_callv rfl 47 _ _ rfl (by kernel_rfl) fun A ww hb hw hf => ?_
      have e7 : A.tmps.getD 7 undef = .slice a ks.length c := hf 0 7 (by kernel_rfl)
      obtain ⟨a1, c1, g1, e8, o1, p1, q1, r1⟩ := hf 1 8 (by kernel_rfl)
      show Calls Tryd.prog 47 #[A.tmps.getD 7 undef, .string lbD, A.tmps.getD 8 undef] ww _
      rw [e7, e8]
      exact (specDerQ ww (h1.up hw) (hEQ o1 p1 q1) lbD (by decide)).out.mono (by rintro r w' ⟨⟨a1, c1, g1, rfl, o1, p1, q1, r1⟩, n⟩; exact ⟨_, rfl, n, a1, c1, g1, rfl, o1, p1, q1, Nat.le_trans hw.size r1⟩)
    · exact step_make32 rfl rfl rfl
    · refine step_callv rfl 34 _ _ rfl (by kernel_rfl) fun A ww hb hw hf => ?_
      obtain ⟨a1, c1, g1, e9, o1, p1, q1, r1⟩ := hf 2 9 (by kernel_rfl)
      obtain ⟨a2, c2, g2, e10, o2, p2, q2, r2⟩ := hf 3 10 (by kernel_rfl)
      show Calls Tryd.prog 34 #[A.tmps.getD 9 undef, A.tmps.getD 10 undef] ww _
      rw [e9, e10]
      exact (specExtQ ww (labQ o1 p1 q1) (Lq.of o2 p2 q2 zer32_byt (by rw [zer32_len]; decide))).out.mono (by rintro r w' ⟨⟨a1, c1, g1, rfl, o1, p1, q1, r1⟩, n⟩; exact ⟨_, rfl, n, a1, c1, g1, rfl, o1, p1, q1, Nat.le_trans hw.size r1⟩)
    · exact step_asg rfl 11 4 rfl (by kernel_rfl) rfl rfl
  intro A W hb hw hF
  have e2 := hF 5 2 (by kernel_rfl)
  obtain ⟨vs, hvs⟩ : ∃ vs : Nat → Value, ∀ d, A.tmps.getD d undef = vs d := ⟨_, fun _ => rfl⟩
  rw [hvs] at e2
  rw [puts_of (md := .any) (k := 6) (by kernel_rfl) rfl hb vs hvs]
  clear hb hF hvs h1
  obtain ⟨a1, c1, g1, e3, o1, p1, q1, r1⟩ := e2
  simp only [puts, e3, Act.put, List.setIfInBounds_toArray, List.set_cons_succ, List.set_cons_zero]
  go_wp2
  go_ret
  exact ⟨⟨a1, c1, g1, rfl, o1, p1, q1, r1⟩, hw⟩
set_option maxHeartbeats 1000000 in
theorem specEarlySecret_any (w : World) {a : Option Addr} {c : Nat} {ks : List Int} (h1 : Lq w a c ks) :
    Calls Tryd.prog 11 #[.slice a ks.length c] w fun e w' => NewRow w.heap.size w' e .u8 (eaA ks) ∧ Below w.heap.size w w' := by
  by_cases h0 : ks.length = 0
  · have t : ((ks.length : Int) == 0) = true := by rw [h0]; rfl
    have e : eaA ks = macL zer32 zer32 := by
      have : knL ks = zer32 := by unfold knL; rw [if_pos h0]
      unfold eaA
      rw [this, if_pos zer32_len]
    rw [e]
    clear h0
    go_enter Tryd.func11, Tryd.ntmps11
    go_upto_region 2 with fail
    refine region_end 4 (fun i => [RNh w.heap.size zer32, RNh w.heap.size zer32, RNh w.heap.size (macL zer32 zer32), RNh w.heap.size (macL zer32 zer32)].getD i Fact.no) (by kernel_rfl) (by kernel_rfl) rfl ?_ ?_
    · intro i hi
      obtain rfl | rfl | rfl | rfl : i = 0 ∨ i = 1 ∨ i = 2 ∨ i = 3 := by omega
      · exact step_make32 rfl rfl rfl
      · exact step_make32 rfl rfl rfl
      · refine step_callv rfl 34 _ _ rfl (by kernel_rfl) fun A ww hb hw hf => ?_
        obtain ⟨a1, c1, g1, e9, o1, p1, q1, r1⟩ := hf 0 6 (by kernel_rfl)
        obtain ⟨a2, c2, g2, e10, o2, p2, q2, r2⟩ := hf 1 7 (by kernel_rfl)
        show Calls Tryd.prog 34 #[A.tmps.getD 6 undef, A.tmps.getD 7 undef] ww _
        rw [e9, e10]
        exact (specExtQ ww (Lq.of o1 p1 q1 zer32_byt (by rw [zer32_len]; decide)) (Lq.of o2 p2 q2 zer32_byt (by rw [zer32_len]; decide))).out.mono (by rintro r w' ⟨⟨a1, c1, g1, rfl, o1, p1, q1, r1⟩, n⟩; exact ⟨_, rfl, n, a1, c1, g1, rfl, o1, p1, q1, Nat.le_trans hw.size r1⟩)
      · exact step_asg rfl 8 2 rfl (by kernel_rfl) rfl rfl
    intro A W hb hw hF
    have e2 := hF 3 2 (by kernel_rfl)
    obtain ⟨vs, hvs⟩ : ∃ vs : Nat → Value, ∀ d, A.tmps.getD d undef = vs d := ⟨_, fun _ => rfl⟩
    rw [hvs] at e2
    rw [puts_of (md := .any) (k := 4) (by kernel_rfl) rfl hb vs hvs]
    clear hb hF hvs h1
    obtain ⟨a1, c1, g1, e3, o1, p1, q1, r1⟩ := e2
    simp only [puts, e3, Act.put, List.setIfInBounds_toArray, List.set_cons_succ, List.set_cons_zero]
    go_wp2
    go_ret
    exact ⟨⟨a1, c1, g1, rfl, o1, p1, q1, r1⟩, hw⟩
  have t0 : ((ks.length : Int) == 0) = false := beq_eq_false_iff_ne.2 (by omega)
  have ek : knL ks = ks := by unfold knL; rw [if_neg h0]
  clear h0
  by_cases h : ks.length = 32
  rotate_left
  · have t : ((ks.length : Int) != 32) = true := bne_iff_ne.2 (by omega)
    have e : eaA ks = [] := by unfold eaA; rw [ek, if_neg h]
    rw [e]
    clear h h1 ek
    go_enter Tryd.func11, Tryd.ntmps11
    go_wp2
    go_ret
    exact ⟨newRow_e _ _, al0_up _⟩
  have t : ((ks.length : Int) != 32) = false := by rw [h]; rfl
  have e : eaA ks = macL zer32 ks := by unfold eaA; rw [ek, if_pos h]
  rw [e]
  clear h ek
  obtain ⟨i0, hi, hz0, hz1, hz2⟩ := info_parts Tryd.info5
  have EX := fun W (n : Below w.heap.size w W) a1 c1 (h : Lq W a1 c1 zer32) => specExtQ W h (h1.up n)
  clear h1
  generalize macL zer32 ks = ys at *
  generalize ks.length = m at *
  go_enter Tryd.func11, Tryd.ntmps11
  go_wp2_with (at_make; refine wpList_make_full _ rfl _ _ 22 rfl w.heap.size 5 i0 (.int .u8 0) 1 Tryd.underlying22 hi hz0 hz1 .i64 .i64 _ _ 32 rfl rfl rfl rfl (by rw [hz2]; decide) (by unfold maxLen; decide) (Nat.le_refl _) ?_; intro w5 hown hgrow)
  have hB0 : Blk w5 w.heap.size .u8 zer32 := Blk.of_made hown
  have hN0 : Below w.heap.size w w5 := (Below.refl _ _).grown hgrow (Nat.le_refl _) (by simp)
  have E := EX w5 hN0 (some ⟨w.heap.size, 0, none⟩) 32 (Lq.of hB0.own0 (fun h => by simp at h) (by rw [zer32_len]; exact Nat.le_refl _) zer32_byt (by rw [zer32_len]; decide))
  rw [zer32_len] at E
  clear EX hown hgrow hB0
  go_wp2_with fail
  refine E.out.mono ?_
  rintro e w4 ⟨⟨a4, c4, g4, rfl, o4, p4, q4, r4⟩, n4⟩
  have z := hN0.size
  go_wp2
  go_ret
  exact ⟨⟨a4, c4, g4, rfl, o4, p4, q4, by omega⟩, nxt hN0 n4⟩
theorem ea_full {ks : List Int} (h : ks.length = 32 ∨ ks.length = 0) : (eaA ks).length = 32 := by
  unfold eaA
  have : (knL ks).length = 32 := by
    unfold knL
    split
    · exact zer32_len
    · omega
  rw [if_pos this, macL_len]
theorem ea_none {ks : List Int} (h : ¬ (ks.length = 32 ∨ ks.length = 0)) : (eaA ks).length ≠ 32 := by
  unfold eaA
  have : (knL ks).length ≠ 32 := by
    unfold knL
    split
    · omega
    · omega
  rw [if_neg this]
  simp
theorem fm_full (ks xs : List Int) (h : (labA (eaA ks) lbB hE 32).length = 32) : fmA (labA (eaA ks) lbB hE 32) (hashL32 xs) = macL (labA (labA (eaA ks) lbB hE 32) lbF [] 32) (hashL32 xs) := by
  unfold fmA
  rw [if_pos ⟨h, hash_len32 _⟩]
set_option maxHeartbeats 1000000 in
theorem specBinderMac_any (w : World) {a a' : Option Addr} {c c' : Nat} {ks xs : List Int} (h1 : Lq w a c ks) (h2 : Lq w a' c' xs) :
    Calls Tryd.prog 32 #[.slice a ks.length c, .slice a' xs.length c'] w fun e w' => NewRow w.heap.size w' e .u8 (bmA ks xs) ∧ Below w.heap.size w w' := by
  by_cases h : ks.length = 32 ∨ ks.length = 0
  rotate_left
  · have t : ((ks.length : Int) != 32) = true := bne_iff_ne.2 (by omega)
    have t' : ((ks.length : Int) != 0) = true := bne_iff_ne.2 (by omega)
    have e : bmA ks xs = [] := by unfold bmA; rw [if_neg (ea_none h)]
    rw [e]
    clear h h1 h2
    generalize ks.length = m at *
    go_enter Tryd.func32, Tryd.ntmps32
    go_wp2
    go_ret
    exact ⟨newRow_e _ _, al0_up _⟩
  have ES := hide (specEarlySecret_any w h1)
  have LF : (labA (eaA ks) lbB hE 32).length = 32 := labA_full (eaA ks) lbB hE 32 (by decide) (by rw [hE_len]; decide) (by decide)
  have e : bmA ks xs = fmA (labA (eaA ks) lbB hE 32) (hashL32 xs) := by
    rw [fm_full ks xs LF]
    unfold bmA
    rw [if_pos (ea_full h)]
  rw [e]
  have EB := eaA_byt ks
  have EL := eaA_len ks
  have NO := fun W => hide (l14Nothing_any W)
  have EQ := fun (W : World) (a : Option Addr) (c g : Nat) (o : Own W g a .u8 (eaA ks)) p q => hide (Lq.of (c := c) o p q EB (by omega))
  have HQ := fun (W : World) (a : Option Addr) (c g : Nat) (o : Own W g a .u8 hE) p q => hide (hEQ (c := c) o p q)
  have LQ := fun (W : World) (a : Option Addr) (c g : Nat) (o : Own W g a .u8 (labA (eaA ks) lbB hE 32)) p q => hide (labQ (c := c) o p q)
  have SQ := fun (W : World) (a : Option Addr) (c g : Nat) (o : Own W g a .u8 (hashL32 xs)) p q => hide (Lq.of (c := c) o p q (hash_byt32 xs) (by rw [hash_len32]; decide))
  have DE := fun W a0 c0 (h0 : Lq W a0 c0 (eaA ks)) a1 c1 (h : Lq W a1 c1 hE) => specDerQ W h0 h lbB (by decide)
  have HA : ∀ W, Below w.heap.size w W → Hid (Calls Tryd.prog 50 #[.slice a' xs.length c'] W fun e w' => NewRow W.heap.size w' e .u8 (hashL32 xs) ∧ Below W.heap.size W w') := fun W n => by
    obtain ⟨⟨g, r⟩, b, p, q, l⟩ := h2.up n
    exact specHash_L W g a' c' xs r b p (by omega)
  have FM := fun W a0 c0 (h0 : Lq W a0 c0 (labA (eaA ks) lbB hE 32)) a1 c1 (h : Lq W a1 c1 (hashL32 xs)) => hide (specFinishedMac_any W h0 h)
  clear EB EL LF h1 h2
  have KK : Hid (ks.length = 32 ∨ ks.length = 0) := h
  clear h
  generalize labA (eaA ks) lbB hE 32 = ls at *
  generalize hE = hh at *
  generalize hashL32 xs = sx at *
  generalize eaA ks = ee at *
  generalize fmA ls sx = ys at *
  unfold lbB at DE
  generalize xs.length = m' at *
  have go : ∀ (m : Nat), m = ks.length → m = ks.length := fun _ h => h
  obtain ⟨m, hm⟩ : ∃ m, m = ks.length := ⟨_, rfl⟩
  rw [← hm] at ES KK
  rw [← hm]
  clear hm go
  have tt : Hid (((m : Int) != 32) = false ∨ ((m : Int) != 32) = true ∧ ((m : Int) != 0) = false) := by
    show _ ∨ _
    rcases KK.out with h | h
    · left
      rw [h]
      rfl
    · right
      rw [h]
      exact ⟨rfl, rfl⟩
  clear KK
  rcases tt.out with t | ⟨t, t'⟩
  all_goals
    clear tt
    go_enter Tryd.func32, Tryd.ntmps32
    go_wp2_with fail
    refine ES.out.mono ?_
    rintro e w2 ⟨⟨a2, c2, g2, rfl, o2, p2, q2, r2⟩, n2⟩
    have L2 := EQ w2 a2 c2 g2 o2 p2 q2
    have NO2 := NO w2
    clear EQ NO o2 p2 q2
    go_wp2_with fail
    refine NO2.out.mono ?_
    rintro e w3 ⟨⟨a3, c3, g3, rfl, o3, p3, q3, r3⟩, n3⟩
    have D := DE w3 a2 c2 (L2.out.up n3) a3 c3 (HQ w3 a3 c3 g3 o3 p3 q3).out
    have N3 := nxt n2 n3
    clear DE HQ L2 NO2 o3 p3 q3
    go_wp2_with fail
    refine D.out.mono ?_
    rintro e w4 ⟨⟨a4, c4, g4, rfl, o4, p4, q4, r4⟩, n4⟩
    have L4 := LQ w4 a4 c4 g4 o4 p4 q4
    have N4 := nxt N3 n4
    have H4 := HA w4 N4
    clear LQ HA o4 p4 q4 D
    go_wp2_with fail
    refine H4.out.mono ?_
    rintro e w5 ⟨⟨a5, c5, g5, rfl, o5, p5, q5, r5⟩, n5⟩
    have N5 := nxt N4 n5
    have M := FM w5 a4 c4 (L4.out.up n5) a5 c5 (SQ w5 a5 c5 g5 o5 p5 q5).out
    clear FM SQ L4 o5 p5 q5 H4
    go_wp2_with fail
    refine M.out.mono ?_
    rintro e w6 ⟨⟨a6, c6, g6, rfl, o6, p6, q6, r6⟩, n6⟩
    have z := N5.size
    go_wp2
    go_ret
    exact ⟨⟨a6, c6, g6, rfl, o6, p6, q6, by omega⟩, nxt N5 n6⟩
end Go.Proofs.YtnfciobpfiibcaaDoor

/-
  A region that draws its order, by facts (RegF), where an operation's value may stand in a relation to the values of those that it waits for.
-/
namespace Go.Proofs.YtnfciobpfiibcaaDoor
set_option maxRecDepth 100000
open Go Go.RowKit

section
variable {P : Program} {ops : Array Oper} {Q : Exit → Act → World → Prop} {md : Region.Mode} {F : Nat → Fact} {a0 : Act} {w0 : World} {R : Nat → Nat → Value → Value → Prop}
/-- One operation; its value v stands in R i j to that of number j, for which it waits. -/
def StepR (P : Program) (md : Region.Mode) (ops : Array Oper) (Q : Exit → Act → World → Prop) (F : Nat → Fact) (R : Nat → Nat → Value → Value → Prop) (a0 : Act) (w0 : World) (i : Nat) : Prop :=
  ∀ o, ops[i]? = some o → ∀ a w, Based ops a0 a → Below w0.heap.size w0 w → (∀ j d, waits md ops i j d = true → (F j).p (a.tmps.getD d undef) w) → (∀ j l d d', waits md ops i j d = true → waits md ops j l d' = true → R j l (a.tmps.getD d' undef) (a.tmps.getD d undef)) →
    ∀ K : Act → World → Prop, (∀ v w', Below w.heap.size w w' → (F i).p v w' → (∀ j d, waits md ops i j d = true → R i j (a.tmps.getD d undef) v) → K (a.put o.dst v) w') → o.wp P a w K Q
theorem StepR.of {i : Nat} (h : StepOk P md ops Q F a0 w0 i) (hi : ∀ j x y, R i j x y) : StepR P md ops Q F R a0 w0 i := fun o ho a w hb hw hf _ K hK => h o ho a w hb hw hf K fun v w' hn hv => hK v w' hn hv fun j _ _ => hi j _ _
def PairR (md : Region.Mode) (ops : Array Oper) (R : Nat → Nat → Value → Value → Prop) (listed : Array Bool) (a : Act) : Prop := ∀ i j d d', listed.getD i false = true → waits md ops i j d = true → writes ops i d' = true → R i j (a.tmps.getD d undef) (a.tmps.getD d' undef)
theorem PairR.next {n k : Nat} (T : Text md ops n k) (hn : n ≤ a0.tmps.size) {listed : Array Bool} {a : Act} {w : World} (H : Held md ops F a0 w0 listed a w) (X : PairR md ops R listed a) {i : Nat} {o : Oper} (ho : ops[i]? = some o) (hr : i ∈ Region.ready md ops listed)
    {v : Value} (hR : ∀ j d, waits md ops i j d = true → R i j (a.tmps.getD d undef) v) : PairR md ops R (listed.setIfInBounds i true) (a.put o.dst v) := by
  intro i0 j0 d0 d1 hl hJ0 hD
  have hJ := hJ0
  unfold waits at hJ
  unfold writes at hD
  cases h0 : ops[i0]? with
  | none => rw [h0] at hD; simp at hD
  | some o0 =>
    cases hj : ops[j0]? with
    | none => rw [h0, hj] at hJ; simp at hJ
    | some oj =>
      rw [h0] at hD
      rw [h0, hj] at hJ
      simp only [Bool.and_eq_true, beq_iff_eq] at hJ hD
      obtain ⟨e, he, hb⟩ := Array.any_eq_true'.1 hJ.1
      simp only [Bool.and_eq_true, beq_iff_eq] at hb
      have hlt := T.a i0 o0 h0 e he hb.1
      rw [hb.2] at hlt
      by_cases c : i = i0
      · subst c
        obtain rfl := Option.some.inj (ho.symm.trans h0)
        rw [hD, put_at (Nat.lt_of_lt_of_le (T.d i o d1 ho hD) (by rw [H.b.2.1]; exact hn)), put_off (fun x => T.x i j0 o oj d1 ho hj (by omega) hD (by rw [hJ.2]; exact x.symm))]
        exact hR j0 d0 hJ0
      · rw [getD_off c] at hl
        have hjl := H.c i0 o0 h0 hl e he hb.1
        rw [hb.2] at hjl
        obtain ⟨g0, _⟩ := mem_ready.1 hr
        have hlt2 := (Array.getElem?_eq_some_iff.1 ho).1
        have cj : i ≠ j0 := fun x => by
          subst x
          rw [dflt (by rw [H.s]; exact hlt2), hjl] at g0
          simp at g0
        rw [put_off (fun x => T.x j0 i oj o d0 hj ho (Ne.symm cj) hJ.2 x), put_off (fun x => T.x i0 i o0 o d1 h0 ho (Ne.symm c) hD x)]
        exact X i0 j0 d0 d1 hl hJ0 (by unfold writes; rw [h0]; simpa using hD)

theorem any_factsR {n k : Nat} (T : Text md ops n k) (hn : n ≤ a0.tmps.size) (steps : ∀ i, i < k → StepR P md ops Q F R a0 w0 i)
    (fin : ∀ a w, Based ops a0 a → Below w0.heap.size w0 w → (∀ i o d, i < k → ops[i]? = some o → o.dst = some d → (F i).p (a.tmps.getD d undef) w) → (∀ i j d d', i < k → waits md ops i j d = true → writes ops i d' = true → R i j (a.tmps.getD d undef) (a.tmps.getD d' undef)) →
      match ops[k]? with
      | none => Q .normal a w
      | some o => o.wp P a w (fun a' w' => Q .normal a' w') Q) :
    ∀ (fuel : Nat) (listed : Array Bool) (a : Act) (w : World), left listed ops.size ≤ fuel → Held md ops F a0 w0 listed a w → PairR md ops R listed a → listed.getD k false = false → wpAny P md ops Q fuel listed a w := by
  intro fuel
  induction fuel with
  | zero =>
    intro listed a w hl H X hk
    have hall : ∀ i, i < ops.size → listed.getD i false = true := fun i hi => by
      rw [← dflt (by rw [H.s]; exact hi)]
      exact left_zero (n := ops.size) (by omega) i hi
    have hke : ops[k]? = none := by
      rcases Nat.lt_or_ge k ops.size with h | h
      · rw [hall k h] at hk; simp at hk
      · simp [h]
    have q := fin a w H.b H.n (fun i o d _ ho hd => H.f i o d ho (hall i (Array.getElem?_eq_some_iff.1 ho).1) hd) (fun i j d d' hi => X i j d d' (hall i (by have := T.k1; omega)))
    rw [hke] at q
    refine ⟨?_, q⟩
    cases hr : Region.ready md ops listed with
    | nil => rfl
    | cons i t =>
      have hi : i ∈ Region.ready md ops listed := by rw [hr]; simp
      obtain ⟨h0, o, ho, _⟩ := mem_ready.1 hi
      have hlt := (Array.getElem?_eq_some_iff.1 ho).1
      rw [dflt (by rw [H.s]; exact hlt), hall i hlt] at h0
      simp at h0
  | succ fuel ih =>
    intro listed a w hl H X hk
    refine ⟨fun hr => ?_, fun i hi => ?_⟩
    · have hall : ∀ i, i < ops.size → listed.getD i false = true := fun i hi => all_listed T H.s hr (i + 1) i (by omega) hi
      have hke : ops[k]? = none := by
        rcases Nat.lt_or_ge k ops.size with h | h
        · rw [hall k h] at hk; simp at hk
        · simp [h]
      have q := fin a w H.b H.n (fun i o d _ ho hd => H.f i o d ho (hall i (Array.getElem?_eq_some_iff.1 ho).1) hd) (fun i j d d' hi => X i j d d' (hall i (by have := T.k1; omega)))
      rw [hke] at q
      exact q
    · obtain ⟨h0, o, ho, hall⟩ := mem_ready.1 hi
      have hlt := (Array.getElem?_eq_some_iff.1 ho).1
      have hwant : Region.wanted o (yielded ops a.tmps) = true := by simp [Region.wanted, T.g i o ho]
      refine wpOp_step ho fun K' hK => ?_
      rw [if_pos hwant]
      have hll := left_set (by rw [H.s]; exact hlt) h0 ops.size hlt
      rcases Nat.lt_or_ge i k with h1 | h1
      · refine steps i h1 o ho a w H.b H.n ?_ ?_ K' ?_
        · intro j d hjd
          unfold waits at hjd
          rw [ho] at hjd
          cases hoj : ops[j]? with
          | none => rw [hoj] at hjd; simp at hjd
          | some oj =>
            rw [hoj] at hjd
            simp only [Bool.and_eq_true, beq_iff_eq] at hjd
            obtain ⟨e, he, hb⟩ := Array.any_eq_true'.1 hjd.1
            simp only [Bool.and_eq_true, beq_iff_eq] at hb
            exact H.f j oj d hoj (by rw [← hb.2]; exact hall e he hb.1) hjd.2
        · intro j l d d' hjd hjl
          have hjd0 := hjd
          unfold waits at hjd
          rw [ho] at hjd
          cases hoj : ops[j]? with
          | none => rw [hoj] at hjd; simp at hjd
          | some oj =>
            rw [hoj] at hjd
            simp only [Bool.and_eq_true, beq_iff_eq] at hjd
            obtain ⟨e, he, hb⟩ := Array.any_eq_true'.1 hjd.1
            simp only [Bool.and_eq_true, beq_iff_eq] at hb
            exact X j l d' d (by rw [← hb.2]; exact hall e he hb.1) hjl (by unfold writes; rw [hoj]; simpa using hjd.2)
        · intro v w' hw hf hR
          refine hK _ _ (ih _ _ _ (by omega) (H.next T hn ho hi hw hf) (X.next T hn H ho hi hR) ?_)
          rw [getD_off (by omega)]
          exact hk
      · obtain rfl : i = k := by have := T.k2; omega
        have hahead := all_ahead T hlt H hi
        have q := fin a w H.b H.n (fun j oj d hj hoj hd => H.f j oj d hoj (hahead (i - j) j (Nat.le_refl _) hj) hd) (fun p j d d' hp => X p j d d' (hahead (i - p) p (Nat.le_refl _) hp))
        rw [ho] at q
        refine Oper.wp_mono (fun a' w' h => hK _ _ (wpAny_done ?_ h fuel)) q
        cases hr : Region.ready md ops (listed.setIfInBounds i true) with
        | nil => rfl
        | cons j t =>
          exfalso
          have hj : j ∈ Region.ready md ops (listed.setIfInBounds i true) := by rw [hr]; simp
          obtain ⟨g0, oj, hoj, _⟩ := mem_ready.1 hj
          have hjl := (Array.getElem?_eq_some_iff.1 hoj).1
          by_cases e : i = j
          · subst e
            rw [getD_same (by rw [H.s]; exact hlt)] at g0
            simp at g0
          · rw [getD_off e, dflt (by rw [H.s]; exact hjl), hahead (i - j) j (Nat.le_refl _) (by have := T.k2; omega)] at g0
            simp at g0


/-- A region that draws its order and ends with a store. -/
theorem region_storeR {id : Nat} {w : World} (R : Nat → Nat → Value → Value → Prop) (k : Nat) (o : Oper) (F : Nat → Fact) (hm : P.follows .mixedOrders = true) (hT : textOk .any ops a0.tmps.size k = true) (hk : ops[k]? = some o) (hd : o.dst = none) (steps : ∀ i, i < k → StepR P .any ops Q F R a0 w i)
    (fin : ∀ a w', Based ops a0 a → Below w.heap.size w w' → Full ops F a w' → (∀ i j d d', i < k → waits .any ops i j d = true → writes ops i d' = true → R i j (a.tmps.getD d undef) (a.tmps.getD d' undef)) → o.wp P a w' (fun a' w'' => Q .normal a' w'') Q) : (Code.region id ops true).wp P Q a0 w := by
  have T := text_of hT
  refine wp_region_any hm ?_
  refine any_factsR (w0 := w) T (Nat.le_refl _) steps ?_ ops.size _ a0 _ ?_ ⟨⟨rfl, rfl, fun _ _ => rfl⟩, (Below.refl _ _).drew, ?_, ?_, by simp⟩ ?_ ?_
  · intro a w' hb hw hf hR
    rw [hk]
    refine fin a w' hb hw (fun i d hi => ?_) hR
    unfold writes at hi
    cases ho : ops[i]? with
    | none => rw [ho] at hi; simp at hi
    | some oi =>
      rw [ho] at hi
      have hi' : oi.dst = some d := by simpa using hi
      refine hf i oi d ?_ ho hi'
      have h1 := (Array.getElem?_eq_some_iff.1 ho).1
      have h2 := T.k2
      rcases Nat.lt_or_ge i k with h | h
      · exact h
      · obtain rfl : i = k := by omega
        obtain rfl := Option.some.inj (hk.symm.trans ho)
        rw [hd] at hi'
        simp at hi'
  · have : ∀ m, left (Array.replicate ops.size false) m ≤ m := by
      intro m
      induction m with
      | zero => exact Nat.le_refl _
      | succ m ih => unfold left; split <;> omega
    exact this _
  · intro i o d ho hl _
    rw [Array.getD_eq_getD_getElem?, Array.getElem?_replicate] at hl
    split at hl <;> simp at hl
  · intro i o ho hl
    rw [Array.getD_eq_getD_getElem?, Array.getElem?_replicate] at hl
    split at hl <;> simp at hl
  · intro i j d d' hl
    rw [Array.getD_eq_getD_getElem?, Array.getElem?_replicate] at hl
    split at hl <;> simp at hl
  · rw [Array.getD_eq_getD_getElem?, Array.getElem?_replicate]
    split <;> rfl
end
end Go.Proofs.YtnfciobpfiibcaaDoor

/-
  The program's TrafficKeys.
-/
namespace Go.Proofs.YtnfciobpfiibcaaDoor
set_option maxRecDepth 100000
open Go Go.RowKit

def tkK (ks : List Int) : List Int := if ks.length = 32 then labA ks lbK [] 32 else []
def tkI (ks : List Int) : List Int := if ks.length = 32 then labA ks lbI [] 12 else []
theorem tkK_len (ks : List Int) : (tkK ks).length ≤ 1048576 := by
  unfold tkK; split
  · exact Nat.le_trans (labA_len _ _ _ _) (by decide)
  · simp
theorem tkI_len (ks : List Int) : (tkI ks).length ≤ 1048576 := by
  unfold tkI; split
  · exact Nat.le_trans (labA_len _ _ _ _) (by decide)
  · simp
/-- Keys that the call made: two lists in different blocks. -/
def KY (w : World) (v : Value) (B : Nat) (ks is : List Int) : Prop :=
  ∃ (a a' : Option Addr) (c c' g g' : Nat), v = .agg #[.slice a ks.length c, .slice a' is.length c'] ∧ Own w g a .u8 ks ∧ Own w g' a' .u8 is ∧ (a = none → c = 0) ∧ (a' = none → c' = 0) ∧ ks.length ≤ c ∧ is.length ≤ c' ∧ B ≤ g ∧ B ≤ g' ∧ (0 < ks.length → 0 < is.length → g < g')
theorem KY.up {w w' : World} {v : Value} {B : Nat} {ks is : List Int} (h : KY w v B ks is) (n : Below w.heap.size w w') : KY w' v B ks is := by
  obtain ⟨a, a', c, c', g, g', e, o, o', q⟩ := h
  exact ⟨a, a', c, c', g, g', e, o.up n, o'.up n, q⟩
/-- A row of one. -/
def BS1 (x : Value) : Fact := ⟨fun v w => ∃ b, v = .slice (some ⟨b, 0, none⟩) 1 1 ∧ w.cell? ⟨b, 0, none⟩ = some x, fun n h => by
  obtain ⟨b, e, c⟩ := h
  exact ⟨b, e, (World.cell?_of_block (a := ⟨b, 0, none⟩) (n.block b (block_lt_of_cell c))).trans c⟩⟩
/-- The first one's block lies ahead of the second one's. -/
def dj (x y : Value) : Prop := ∀ p m c p' m' c', x = .slice (some p) m c → y = .slice (some p') m' c' → 0 < m → 0 < m' → p.block < p'.block
def RK (i j : Nat) (x y : Value) : Prop := (i = 9 → j = 4 → dj x y) ∧ (i = 10 → (j = 4 → ∃ z, y = .agg #[x, z]) ∧ (j = 9 → ∃ z, y = .agg #[z, x]))
theorem waits_writes {md : Region.Mode} {ops : Array Oper} {i j d : Nat} (h : waits md ops i j d = true) : writes ops j d = true := by
  unfold waits at h
  unfold writes
  cases hi : ops[i]? with
  | none => rw [hi] at h; simp at h
  | some o =>
    cases hj : ops[j]? with
    | none => rw [hi, hj] at h; simp at h
    | some oj =>
      rw [hi, hj] at h
      simp only [Bool.and_eq_true] at h
      exact h.2
theorem writes_one {ops : Array Oper} {j d d' : Nat} (h : writes ops j d = true) (h' : writes ops j d' = true) : d = d' := by
  unfold writes at h h'
  cases hj : ops[j]? with
  | none => rw [hj] at h; simp at h
  | some oj =>
    rw [hj] at h h'
    simp only [beq_iff_eq] at h h'
    exact Option.some.inj (h.symm.trans h')
section
variable {P : Program} {ops : Array Oper} {Q : Exit → Act → World → Prop} {md : Region.Mode} {F : Nat → Fact} {a0 : Act} {w0 : World} {R : Nat → Nat → Value → Value → Prop}
theorem step_callR {i : Nat} {o : Oper} (hi : ops[i]? = some o) (n : FuncId) (args : Array Operand) (ts : Array TypeId) (hop : o.op = .call { callee := .value (.func n), args := args, argTypes := ts }) (he : enters P n = true)
    (G : ∀ a w, Based ops a0 a → Below w0.heap.size w0 w → Facts md ops F i a w → Calls P n (args.toList.map a.eval).toArray w fun e w' => ∃ v, e = .returned v ∧ Below w.heap.size w w' ∧ (F i).p v w' ∧ ∀ j d, waits md ops i j d = true → R i j (a.tmps.getD d undef) v) : StepR P md ops Q F R a0 w0 i := by
  intro o' ho' a w hb hw hf _ K hK
  obtain rfl := Option.some.inj (hi.symm.trans ho')
  have hr : (execOp a.eval o).run P w = .ok (.enter n (args.map a.eval)) w := by
    have h0 : (Deferred.ofValue (Value.func (Fn.func n) #[] #[]) (args.map a.eval)).run P w = .ok { target := .fn (.func n) #[], args := args.map a.eval } w := by simp [Deferred.ofValue]
    simp [execOp, hop, resolve, invoke, Act.eval, h0, run_enter he]
  have e : args.map a.eval = (args.toList.map a.eval).toArray := by cases args; simp
  unfold Oper.wp
  rw [hr, e, Oper.upon_enter]
  refine (G a w hb hw hf).mono ?_
  rintro e w' ⟨v, rfl, hn, hv, hR⟩
  exact hK v w' hn hv hR
theorem step_pureR {i : Nat} {o : Oper} (hi : ops[i]? = some o)
    (G : ∀ a w, Based ops a0 a → Below w0.heap.size w0 w → Facts md ops F i a w → ∃ v, (execOp a.eval o).run P w = .ok (.value v) w ∧ (F i).p v w ∧ ∀ j d, waits md ops i j d = true → R i j (a.tmps.getD d undef) v) : StepR P md ops Q F R a0 w0 i := by
  intro o' ho' a w hb hw hf _ K hK
  obtain rfl := Option.some.inj (hi.symm.trans ho')
  obtain ⟨v, hr, hv, hR⟩ := G a w hb hw hf
  unfold Oper.wp
  rw [hr]
  exact hK v w (Below.refl _ _) hv hR
end
theorem iKy : (Tryd.prog.info? 29).map (·.size) = some 2 := by kernel_rfl
theorem rowKy : ∃ d, Tryd.prog.underlying 29 = some d ∧ d.isRow = true := ⟨_, Tryd.underlying29, rfl⟩
theorem buKy (w : World) (a a' : Option Addr) (n n' c c' : Nat) : (Instr.build 29 #[(0, .slice a n c), (1, .slice a' n' c')]).run Tryd.prog w = .ok (.agg #[.slice a n c, .slice a' n' c']) w := by kernel_rfl
theorem bs_run (w : World) (a : Option Addr) (n c : Nat) : (Instr.buildSlice 39 1 #[(0, .slice a n c)]).run Tryd.prog w = .ok (.slice (some ⟨w.heap.size, 0, none⟩) 1 1) (al1 w (.slice a n c)) := by
  kernel_rfl
theorem takes1 {W : World} {b : Nat} {a : Option Addr} {n c : Nat} (h : W.cell? ⟨b, 0, none⟩ = some (.slice a n c)) : RwV W b [(a, n, c)] := fun i hi => by
  obtain rfl : i = 0 := by simp at hi; omega
  exact h
theorem rk_free {i : Nat} (h9 : i ≠ 9) (h10 : i ≠ 10) : ∀ j x y, RK i j x y := fun _ _ _ => ⟨fun h => absurd h h9, fun h => absurd h h10⟩
end Go.Proofs.YtnfciobpfiibcaaDoor

/-
  The program's TrafficKeys, and the model's.
-/
namespace Go.Proofs.YtnfciobpfiibcaaDoor
set_option maxRecDepth 100000
open Go Go.RowKit

theorem ex_build {a : Act} {w : World} {o : Oper} {a1 a2 : Option Addr} {n1 n2 c1 c2 : Nat} (p q : Nat) (hop : o.op = .build 29 #[(0, .tmp p), (1, .tmp q)]) (hp : a.tmps.getD p undef = .slice a1 n1 c1) (hq : a.tmps.getD q undef = .slice a2 n2 c2) : (execOp a.eval o).run Tryd.prog w = .ok (.value (.agg #[.slice a1 n1 c1, .slice a2 n2 c2])) w := by
  have x1 : a.eval (.tmp p) = .slice a1 n1 c1 := hp
  have x2 : a.eval (.tmp q) = .slice a2 n2 c2 := hq
  have gg : (#[(0, Operand.tmp p), (1, Operand.tmp q)].map fun (n, x) => (n, a.eval x)) = #[(0, Value.slice a1 n1 c1), (1, .slice a2 n2 c2)] := by simp [x1, x2]
  simp only [execOp, hop, gg]
  rw [Sem.run_bind, buKy]
  rfl
theorem step_bs1 {ops : Array Oper} {Q : Exit → Act → World → Prop} {md : Region.Mode} {F : Nat → Fact} {a0 : Act} {w0 : World} {i : Nat} {o : Oper} {a1 : Option Addr} {n1 c1 : Nat} (hi : ops[i]? = some o) (p j : Nat) (hop : o.op = .buildSlice 39 1 #[(0, .tmp p)]) (hj : waits md ops i j p = true) (hFj : F j = Fact.eq (.slice a1 n1 c1)) (hFi : F i = BS1 (.slice a1 n1 c1)) : StepOk Tryd.prog md ops Q F a0 w0 i := by
  refine step_grow hi fun a w _ _ hf => ?_
  have h1 := hf j p hj
  rw [hFj] at h1
  have x1 : a.eval (.tmp p) = .slice a1 n1 c1 := h1
  have gg : (#[(0, Operand.tmp p)].map fun (n, x) => (n, a.eval x)) = #[(0, Value.slice a1 n1 c1)] := by simp [x1]
  refine ⟨.slice (some ⟨w.heap.size, 0, none⟩) 1 1, al1 w (.slice a1 n1 c1), ?_, al1_up _ _, ?_⟩
  · simp only [execOp, hop, gg]
    rw [Sem.run_bind, bs_run]
    rfl
  · rw [hFi]
    have := rw1 w (a1, n1, c1) 0 (by simp)
    exact ⟨w.heap.size, rfl, this⟩
set_option maxHeartbeats 4000000 in
theorem implTrafficKeys_any (w : World) (hH : HasH w) {a : Option Addr} {c : Nat} {ks : List Int} (h1 : Lq w a c ks) :
    Calls Tryd.prog 24 #[.slice a ks.length c] w fun e w' => (∃ v, e = .returned v ∧ KY w' v w.heap.size (tkK ks) (tkI ks)) ∧ Below w.heap.size w w' := by
  obtain ⟨d3, hd3, hrow3⟩ := rowKy
  obtain ⟨d2, hd2, hrow2⟩ := rowSc
  have n0 : Below w.heap.size w (w.alloc (.cells #[.slice none 0 0, .slice none 0 0] 29)) := (Below.refl _ _).alloc (Nat.le_refl _) _
  have T0 : (w.alloc (.cells #[.slice none 0 0, .slice none 0 0] 29)).there w.heap.size 0 2 := there2 (x := .slice none 0 0) (y := .slice none 0 0) (t := 29) (by show (w.heap.push _)[w.heap.size]? = _; simp)
  have z0 : (w.alloc (.cells #[.slice none 0 0, .slice none 0 0] 29)).heap.size = w.heap.size + 1 := by simp
  go_enter Tryd.func24, Tryd.ntmps24
  go_upto_region 1 with fail
  generalize w.alloc (.cells #[.slice none 0 0, .slice none 0 0] 29) = wa at *
  have n1 := bx_up wa (.slice a ks.length c) (.slice none 0 0)
  have z1 := bx_lt wa (.slice a ks.length c) (.slice none 0 0)
  have R1 := bx_range wa (.slice a ks.length c) (.slice none 0 0)
  unfold bx at n1 z1 R1
  go_upto_region 2 with fail
  have zz : (wa.alloc (.cells #[.slice a ks.length c, .slice none 0 0] 36)).heap.size = w.heap.size + 2 := by simp [z0]
  have TH := there_upn (by omega) T0 n1
  have N1 := nxt n0 n1
  have HH1 := hH.up N1
  have L1 := h1.up N1
  rw [z0] at R1
  generalize wa.alloc (.cells #[.slice a ks.length c, .slice none 0 0] 36) = wb at *
  clear n0 n1 T0 z0 z1 hH h1
  have zb : w.heap.size + 1 < wb.heap.size := by omega
  have FS : ∀ i, i ≠ 9 → i ≠ 10 → ∀ j x y, RK i j x y := fun i h9 h10 => rk_free h9 h10
  refine region_storeR RK 11 _ (fun i => [Fact.eq (.agg #[.slice a ks.length c, .slice none 0 0]), Fact.eq (.func (.func 45) #[.agg #[.slice a ks.length c, .slice none 0 0]] #[]), Fact.eq (.slice a ks.length c), BS1 (.slice a ks.length c), RNh wb.heap.size (tkK ks), Fact.eq (.agg #[.slice a ks.length c, .slice none 0 0]), Fact.eq (.func (.func 46) #[.agg #[.slice a ks.length c, .slice none 0 0]] #[]), Fact.eq (.slice a ks.length c), BS1 (.slice a ks.length c), RNh wb.heap.size (tkI ks), Fact.no].getD i Fact.no) (by kernel_rfl) (by kernel_rfl) rfl rfl ?_ ?_
  · intro i hi
    obtain rfl | rfl | rfl | rfl | rfl | rfl | rfl | rfl | rfl | rfl | rfl : i = 0 ∨ i = 1 ∨ i = 2 ∨ i = 3 ∨ i = 4 ∨ i = 5 ∨ i = 6 ∨ i = 7 ∨ i = 8 ∨ i = 9 ∨ i = 10 := by omega
    · refine StepR.of ?_ (FS _ (by decide) (by decide))
      refine step_load rfl 36 (.tmp 3) rfl d2 2 hd2 hrow2 iSc fun A ww hb hw hf => ⟨_, 0, [.slice a ks.length c, .slice none 0 0], hb.2.2 3 (by kernel_rfl), range_up R1 zb hw, rfl, rfl⟩
    · refine StepR.of ?_ (FS _ (by decide) (by decide))
      refine step_pure rfl fun A ww hb hw hf => ?_
      have e6 : A.tmps[6]?.getD undef = .agg #[.slice a ks.length c, .slice none 0 0] := gdv (hf 0 6 (by kernel_rfl))
      exact ⟨.func (.func 45) #[.agg #[.slice a ks.length c, .slice none 0 0]] #[], by simp [go_sem, e6], rfl⟩
    · refine StepR.of ?_ (FS _ (by decide) (by decide))
      refine step_pure rfl fun A ww hb hw hf => ?_
      have e1 : A.tmps[0]?.getD undef = .slice a ks.length c := gdv (hb.2.2 0 (by kernel_rfl))
      exact ⟨.slice a ks.length c, by simp [go_sem, e1], rfl⟩
    · refine StepR.of ?_ (FS _ (by decide) (by decide))
      exact step_bs1 rfl 8 2 rfl (by kernel_rfl) rfl rfl
    · refine StepR.of ?_ (FS _ (by decide) (by decide))
      refine step_callv rfl 36 _ _ rfl (by kernel_rfl) fun A ww hb hw hf => ?_
      have e7 : A.tmps.getD 7 undef = .func (.func 45) #[.agg #[.slice a ks.length c, .slice none 0 0]] #[] := hf 1 7 (by kernel_rfl)
      obtain ⟨bb, e9, hcell⟩ := hf 3 9 (by kernel_rfl)
      show Calls Tryd.prog 36 #[A.tmps.getD 7 undef, A.tmps.getD 9 undef] ww _
      rw [e7, e9]
      have D := takeKey_any ww bb [(a, ks.length, c)] (takes1 hcell) (by simp) (.agg #[.slice a ks.length c, .slice none 0 0]) (labA ks lbK [] 32) (fun _ => sKey_any ww (HH1.up hw) (.slice none 0 0) (L1.up hw))
      rw [oth1, show (if ks.length = 32 then labA ks lbK [] 32 else []) = tkK ks from rfl] at D
      exact D.mono (by rintro r w' ⟨⟨a1, c1, g1, rfl, o1, p1, q1, r1⟩, n⟩; exact ⟨_, rfl, n, a1, c1, g1, rfl, o1, p1, q1, Nat.le_trans hw.size r1⟩)
    · refine StepR.of ?_ (FS _ (by decide) (by decide))
      refine step_load rfl 36 (.tmp 3) rfl d2 2 hd2 hrow2 iSc fun A ww hb hw hf => ⟨_, 0, [.slice a ks.length c, .slice none 0 0], hb.2.2 3 (by kernel_rfl), range_up R1 zb hw, rfl, rfl⟩
    · refine StepR.of ?_ (FS _ (by decide) (by decide))
      refine step_pure rfl fun A ww hb hw hf => ?_
      have e6 : A.tmps[11]?.getD undef = .agg #[.slice a ks.length c, .slice none 0 0] := gdv (hf 5 11 (by kernel_rfl))
      exact ⟨.func (.func 46) #[.agg #[.slice a ks.length c, .slice none 0 0]] #[], by simp [go_sem, e6], rfl⟩
    · refine StepR.of ?_ (FS _ (by decide) (by decide))
      refine step_pure rfl fun A ww hb hw hf => ?_
      have e1 : A.tmps[0]?.getD undef = .slice a ks.length c := gdv (hb.2.2 0 (by kernel_rfl))
      exact ⟨.slice a ks.length c, by simp [go_sem, e1], rfl⟩
    · refine StepR.of ?_ (FS _ (by decide) (by decide))
      exact step_bs1 rfl 13 7 rfl (by kernel_rfl) rfl rfl
    · refine step_callR rfl 36 _ _ rfl (by kernel_rfl) fun A ww hb hw hf => ?_
      obtain ⟨a4, c4, g4, e10, o4, p4, q4, r4⟩ := hf 4 10 (by kernel_rfl)
      have e7 : A.tmps.getD 12 undef = .func (.func 46) #[.agg #[.slice a ks.length c, .slice none 0 0]] #[] := hf 6 12 (by kernel_rfl)
      obtain ⟨bb, e9, hcell⟩ := hf 8 14 (by kernel_rfl)
      show Calls Tryd.prog 36 #[A.tmps.getD 12 undef, A.tmps.getD 14 undef] ww _
      rw [e7, e9]
      have D := takeIv_any ww bb [(a, ks.length, c)] (takes1 hcell) (by simp) (.agg #[.slice a ks.length c, .slice none 0 0]) (labA ks lbI [] 12) (fun _ => sIv_any ww (HH1.up hw) (.slice none 0 0) (L1.up hw))
      rw [oth1, show (if ks.length = 32 then labA ks lbI [] 12 else []) = tkI ks from rfl] at D
      refine D.mono ?_
      rintro r w' ⟨⟨a1, c1, g1, rfl, o1, p1, q1, r1⟩, n⟩
      refine ⟨_, rfl, n, ⟨a1, c1, g1, rfl, o1, p1, q1, Nat.le_trans hw.size r1⟩, fun j d hjd => ⟨fun _ hj => ?_, fun h => absurd h (by decide)⟩⟩
      subst hj
      obtain rfl : d = 10 := writes_one (waits_writes hjd) (by kernel_rfl)
      rw [e10]
      intro p m cc p' m' cc' hx hy hm hm'
      simp only [Value.slice.injEq] at hx hy
      obtain ⟨hx1, hx2, -⟩ := hx
      obtain ⟨hy1, hy2, -⟩ := hy
      obtain ⟨off, ha, -⟩ := o4 (by omega)
      obtain ⟨off', ha', -⟩ := o1 (by omega)
      have hl := o4.rd.lt (by omega)
      rw [ha] at hx1
      rw [ha'] at hy1
      obtain rfl := Option.some.inj hx1
      obtain rfl := Option.some.inj hy1
      show g4 < g1
      omega
    · refine step_pureR rfl fun A ww hb hw hf => ?_
      obtain ⟨a1, c1, g1, e10, o1, p1, q1, r1⟩ := hf 4 10 (by kernel_rfl)
      obtain ⟨a2, c2, g2, e15, o2, p2, q2, r2⟩ := hf 9 15 (by kernel_rfl)
      refine ⟨.agg #[.slice a1 (tkK ks).length c1, .slice a2 (tkI ks).length c2], ex_build 10 15 rfl e10 e15, trivial, fun j d hjd => ⟨fun h => absurd h (by decide), fun _ => ⟨fun hj => ?_, fun hj => ?_⟩⟩⟩
      · subst hj
        obtain rfl : d = 10 := writes_one (waits_writes hjd) (by kernel_rfl)
        exact ⟨_, by rw [e10]⟩
      · subst hj
        obtain rfl : d = 15 := writes_one (waits_writes hjd) (by kernel_rfl)
        exact ⟨_, by rw [e15]⟩
  intro A W hb hw hF hR
  obtain ⟨a1, c1, g1, e10, o1, p1, q1, r1⟩ := hF 4 10 (by kernel_rfl)
  obtain ⟨a2, c2, g2, e15, o2, p2, q2, r2⟩ := hF 9 15 (by kernel_rfl)
  obtain ⟨zA, x1⟩ := ((hR 10 4 10 16 (by decide) (by kernel_rfl) (by kernel_rfl)).2 rfl).1 rfl
  obtain ⟨zB, x2⟩ := ((hR 10 9 15 16 (by decide) (by kernel_rfl) (by kernel_rfl)).2 rfl).2 rfl
  have dd := (hR 9 4 10 15 (by decide) (by kernel_rfl) (by kernel_rfl)).1 rfl rfl
  rw [e10] at x1 dd
  rw [e15] at x2 dd
  have x3 : A.tmps.getD 16 undef = .agg #[.slice a1 (tkK ks).length c1, .slice a2 (tkI ks).length c2] := by
    rw [x1] at x2
    simp only [Value.agg.injEq] at x2
    have h2 : [Value.slice a1 (tkK ks).length c1, zA] = [zB, Value.slice a2 (tkI ks).length c2] := congrArg Array.toList x2
    simp only [List.cons.injEq, and_true] at h2
    rw [x1, h2.2]
  have HD : 0 < (tkK ks).length → 0 < (tkI ks).length → g1 < g2 := fun h h' => by
    obtain ⟨off, ha, -⟩ := o1 h
    obtain ⟨off', ha', -⟩ := o2 h'
    exact dd ⟨g1, off, none⟩ _ _ ⟨g2, off', none⟩ _ _ (by rw [ha]) (by rw [ha']) h h'
  have th := there_upn (by omega) TH hw
  have ep : A.tmps.getD 2 undef = .pointer (some ⟨w.heap.size, 0, none⟩) := hb.2.2 2 (by kernel_rfl)
  refine wp_store_mid 29 (.tmp 2) (.tmp 16) rfl w.heap.size 0 #[.slice a1 (tkK ks).length c1, .slice a2 (tkI ks).length c2] ep x3 th iKy (one2 _ _ _ _ _ _) ?_
  have RR := World.rangeAt_setCells_same W w.heap.size 0 [.slice a1 (tkK ks).length c1, .slice a2 (tkI ks).length c2] th
  have OQ := only_setCells W w.heap.size [.slice a1 (tkK ks).length c1, .slice a2 (tkI ks).length c2] 0
  have N2 : Below w.heap.size w (W.setCells w.heap.size 0 [.slice a1 (tkK ks).length c1, .slice a2 (tkI ks).length c2]) := (nxt N1 hw).trans (OQ.below (by omega))
  have o1' := o1.only OQ (fun _ => by omega)
  have o2' := o2.only OQ (fun _ => by omega)
  obtain ⟨vs, hvs⟩ : ∃ vs : Nat → Value, ∀ d, A.tmps.getD d undef = vs d := ⟨_, fun _ => rfl⟩
  rw [puts_of (md := .any) (k := 11) (by kernel_rfl) rfl hb vs hvs]
  clear hb hF hR hvs R1 TH th x1 x2 x3 e10 e15 dd OQ ep
  show Exit.then _ _ _ _ _
  generalize W.setCells w.heap.size 0 _ = W2 at *
  simp only [puts, Act.put, List.setIfInBounds_toArray, List.set_cons_succ, List.set_cons_zero]
  clear o1 o2 N1 HH1 L1
  go_wp2
  exact bodyPost_ret (v := .agg #[.slice a1 (tkK ks).length c1, .slice a2 (tkI ks).length c2]) (results_cell_m Tryd.results24 _ _ w.heap.size _ d3 rfl RR hd3 hrow3 iKy) rfl ⟨⟨_, rfl, a1, a2, c1, c2, g1, g2, rfl, o1', o2', p1, p2, q1, q2, by omega, by omega, HD⟩, N2⟩
end Go.Proofs.YtnfciobpfiibcaaDoor

/-
  The laws' helpers on keys: two slices.
-/
namespace Go.Proofs.YtnfciobpfiibcaaDoor
set_option maxRecDepth 100000
open Go.RowKit

/-- A cell of a new block of two, behind calls that keep what was there. -/
theorem two_kept {w w1 : World} {x y : Value} {t : TypeId} (n : Below (w.alloc (.cells #[x, y] t)).heap.size (w.alloc (.cells #[x, y] t)) w1) :
    w1.cell? ⟨w.heap.size, 0, none⟩ = some x ∧ w1.cell? ⟨w.heap.size, 1, none⟩ = some y ∧ w1.frozen? ⟨w.heap.size, 0, none⟩ = false ∧ w1.frozen? ⟨w.heap.size, 1, none⟩ = false ∧ w.heap.size < w1.heap.size := by
  have hs : w.heap.size < (w.alloc (.cells #[x, y] t)).heap.size := by simp
  refine ⟨?_, ?_, ?_, ?_, by have := n.size; omega⟩
  · rw [n.cell (p := ⟨w.heap.size, 0, none⟩) hs]; simp [World.cell?_alloc_at]
  · rw [n.cell (p := ⟨w.heap.size, 1, none⟩) hs]; simp [World.cell?_alloc_at]
  · rw [n.frozen (p := ⟨w.heap.size, 0, none⟩) hs]; simp [World.frozen?_alloc_at]
  · rw [n.frozen (p := ⟨w.heap.size, 1, none⟩) hs]; simp [World.frozen?_alloc_at]

/-- A block of two cells, known and free. -/
structure Two (w : World) (p : Nat) (x y : Value) : Prop where
  c0 : w.cell? ⟨p, 0, none⟩ = some x
  c1 : w.cell? ⟨p, 1, none⟩ = some y
  f0 : w.frozen? ⟨p, 0, none⟩ = false
  f1 : w.frozen? ⟨p, 1, none⟩ = false
theorem Two.lt {w : World} {p : Nat} {x y : Value} (h : Two w p x y) : p < w.heap.size := block_lt_of_cell h.c0
theorem Two.of_block {w w' : World} {p : Nat} {x y : Value} (h : Two w p x y) (hb : w'.heap[p]? = w.heap[p]?) : Two w' p x y :=
  ⟨(World.cell?_of_block (a := ⟨p, 0, none⟩) hb).trans h.c0, (World.cell?_of_block (a := ⟨p, 1, none⟩) hb).trans h.c1, (World.frozen?_of_block (a := ⟨p, 0, none⟩) hb).trans h.f0, (World.frozen?_of_block (a := ⟨p, 1, none⟩) hb).trans h.f1⟩
theorem Two.up {w w' : World} {p : Nat} {x y : Value} (h : Two w p x y) (n : Below w.heap.size w w') : Two w' p x y := h.of_block (n.block p h.lt)
theorem Two.only {w w' : World} {p g : Nat} {x y : Value} (h : Two w p x y) (n : Only g w w') (hne : p ≠ g) : Two w' p x y := h.of_block (n.block p hne)
theorem Two.new (w : World) (x y : Value) (t : TypeId) : Two (w.alloc (.cells #[x, y] t)) w.heap.size x y := by
  obtain ⟨k1, k2, k3, k4, _⟩ := two_kept (Below.refl (w.alloc (.cells #[x, y] t)).heap.size (w.alloc (.cells #[x, y] t)))
  exact ⟨k1, k2, k3, k4⟩

/-- Of what was there nothing but the blocks g and h has turned. -/
structure ButP (g h : Nat) (w w' : World) : Prop where
  os : w'.os = w.os
  tape : w'.tape = w.tape
  output : w'.output = w.output
  size : w.heap.size ≤ w'.heap.size
  block : ∀ k, k < w.heap.size → k ≠ g → k ≠ h → w'.heap[k]? = w.heap[k]?
theorem ButP.of {g h : Nat} {a b c d : World} (n : Below a.heap.size a b) (k : Only g b c) (l : Only h c d) : ButP g h a d :=
  ⟨(l.os.trans k.os).trans n.os, (l.tape.trans k.tape).trans n.tape, (l.output.trans k.output).trans n.output, by rw [l.size, k.size]; exact n.size, fun i hi h1 h2 => ((l.block i h2).trans (k.block i h1)).trans (n.block i hi)⟩
theorem ButP.below {g h B : Nat} {w w' : World} (n : ButP g h w w') (hB : B ≤ g) (hC : B ≤ h) (hs : B ≤ w.heap.size) : Below B w w' := ⟨n.os, n.tape, n.output, n.size, fun k hk => n.block k (by omega) (by omega) (by omega)⟩
theorem ButP.up {g h : Nat} {a b c : World} (n : ButP g h a b) (k : Below b.heap.size b c) : ButP g h a c :=
  ⟨k.os.trans n.os, k.tape.trans n.tape, k.output.trans n.output, Nat.le_trans n.size k.size, fun i hi h1 h2 => (k.block i (Nat.lt_of_lt_of_le hi n.size)).trans (n.block i hi h1 h2)⟩
theorem ButP.from {g h : Nat} {a b c : World} (k : Below a.heap.size a b) (n : ButP g h b c) : ButP g h a c :=
  ⟨n.os.trans k.os, n.tape.trans k.tape, n.output.trans k.output, Nat.le_trans k.size n.size, fun i hi h1 h2 => (n.block i (Nat.lt_of_lt_of_le hi k.size) h1 h2).trans (k.block i hi)⟩
theorem Two.butP {w w' : World} {p g h : Nat} {x y : Value} (t : Two w p x y) (n : ButP g h w w') (h1 : p ≠ g) (h2 : p ≠ h) : Two w' p x y := t.of_block (n.block p t.lt h1 h2)
/-- Two rows of bytes. -/
structure PrP (w : World) (g : Nat) (a : Option Addr) (xs : List Int) (g' : Nat) (a' : Option Addr) (ys : List Int) : Prop where
  l : Own w g a .u8 xs
  r : Own w g' a' .u8 ys
theorem PrP.up {w w' : World} {g g' : Nat} {a a' : Option Addr} {xs ys : List Int} (h : PrP w g a xs g' a' ys) (n : Below w.heap.size w w') : PrP w' g a xs g' a' ys := ⟨h.l.up n, h.r.up n⟩
theorem PrP.only {w w' : World} {g g' k : Nat} {a a' : Option Addr} {xs ys : List Int} (h : PrP w g a xs g' a' ys) (n : Only k w w') (h1 : 0 < xs.length → g ≠ k) (h2 : 0 < ys.length → g' ≠ k) : PrP w' g a xs g' a' ys := ⟨h.l.only n h1, h.r.only n h2⟩
theorem Own.butP {w w' : World} {g k l : Nat} {a : Option Addr} {i : IntKind} {xs : List Int} (h : Own w g a i xs) (ho : ButP k l w w') (h1 : 0 < xs.length → g ≠ k ∧ g ≠ l) : Own w' g a i xs := by
  by_cases h0 : 0 < xs.length
  · exact h.of_block (ho.block g (h.rd.lt h0) (h1 h0).1 (h1 h0).2)
  · exact fun h1 => absurd h1 h0
theorem PrP.butP {w w' : World} {g g' k l : Nat} {a a' : Option Addr} {xs ys : List Int} (h : PrP w g a xs g' a' ys) (n : ButP k l w w') (h1 : 0 < xs.length → g ≠ k ∧ g ≠ l) (h2 : 0 < ys.length → g' ≠ k ∧ g' ≠ l) : PrP w' g a xs g' a' ys := ⟨h.l.butP n h1, h.r.butP n h2⟩
/-- A new point whose two lists lie apart. -/
def NewP2 (B : Nat) (w' : World) (e : Ending) (xs ys : List Int) : Prop :=
  ∃ (a : Option Addr) (c g : Nat) (a' : Option Addr) (c' g' : Nat), e = .returned (.agg #[.slice a xs.length c, .slice a' ys.length c']) ∧ Own w' g a .u8 xs ∧ Own w' g' a' .u8 ys ∧ B ≤ g ∧ B ≤ g' ∧ (0 < xs.length → 0 < ys.length → g ≠ g')
theorem NewP2.nil {B : Nat} {w : World} : NewP2 B w (.returned (.agg #[.slice none 0 0, .slice none 0 0])) [] [] := ⟨none, 0, B, none, 0, B, rfl, Own.nil _ _ _ _, Own.nil _ _ _ _, Nat.le_refl _, Nat.le_refl _, fun h => absurd h (by simp)⟩
/-- A row that is not read may be said to lie anywhere. -/
theorem NewP2.at {B B' : Nat} {w : World} {e : Ending} {ys ss : List Int} (h : NewP2 B w e ys ss) (h1 : B' < B) (h2 : B' < w.heap.size) :
    ∃ (a : Option Addr) (c g : Nat) (a' : Option Addr) (c' g' : Nat), e = .returned (.agg #[.slice a ys.length c, .slice a' ss.length c']) ∧ PrP w g a ys g' a' ss ∧ B' ≤ g ∧ g < w.heap.size ∧ B' ≤ g' ∧ g' < w.heap.size ∧ (0 < ys.length → B ≤ g ∧ g ≠ g') ∧ (0 < ss.length → B ≤ g' ∧ g ≠ g') := by
  obtain ⟨a, c, g, a', c', g', he, o, o', hg, hg', hne⟩ := h
  by_cases h0 : 0 < ys.length
  · by_cases k0 : 0 < ss.length
    · exact ⟨a, c, g, a', c', g', he, ⟨o, o'⟩, by omega, o.rd.lt h0, by omega, o'.rd.lt k0, fun _ => ⟨hg, hne h0 k0⟩, fun _ => ⟨hg', hne h0 k0⟩⟩
    · obtain rfl : ss = [] := List.eq_nil_of_length_eq_zero (by omega)
      exact ⟨a, c, g, a', c', B', he, ⟨o, Own.nil _ _ _ _⟩, by omega, o.rd.lt h0, Nat.le_refl _, h2, fun _ => ⟨hg, by omega⟩, fun h => absurd h (by simp)⟩
  · obtain rfl : ys = [] := List.eq_nil_of_length_eq_zero (by omega)
    by_cases k0 : 0 < ss.length
    · exact ⟨a, c, B', a', c', g', he, ⟨Own.nil _ _ _ _, o'⟩, Nat.le_refl _, h2, by omega, o'.rd.lt k0, fun h => absurd h (by simp), fun _ => ⟨hg', by omega⟩⟩
    · obtain rfl : ss = [] := List.eq_nil_of_length_eq_zero (by omega)
      exact ⟨a, c, B', a', c', B', he, ⟨Own.nil _ _ _ _, Own.nil _ _ _ _⟩, Nat.le_refl _, h2, Nat.le_refl _, h2, fun h => absurd h (by simp), fun h => absurd h (by simp)⟩

set_option maxHeartbeats 1000000 in
theorem eqKeys_same (w : World) (g g' h h' : Nat) (a b p q : Option Addr) (ca cb cp cq : Nat) (ys ss : List Int) (ha : PrP w g a ys h p ss) (hb : PrP w g' b ys h' q ss) (hn : ys.length ≤ 1048576) (hm : ss.length ≤ 1048576) :
    Calls Tryd.prog 25 #[.agg #[.slice a ys.length ca, .slice p ss.length cp], .agg #[.slice b ys.length cb, .slice q ss.length cq]] w fun e w' => e = .returned (.bool true) ∧ Below w.heap.size w w' := by
  have n1 : Below w.heap.size w (w.alloc (.cells #[.slice a ys.length ca, .slice p ss.length cp] 29)) := (Below.refl _ _).alloc (Nat.le_refl _) _
  have n2 : Below w.heap.size w ((w.alloc (.cells #[.slice a ys.length ca, .slice p ss.length cp] 29)).alloc (.cells #[.slice b ys.length cb, .slice q ss.length cq] 29)) := n1.alloc (by simp) _
  have T2 := Two.new (w.alloc (.cells #[.slice a ys.length ca, .slice p ss.length cp] 29)) (.slice b ys.length cb) (.slice q ss.length cq) 29
  have T1 := (Two.new w (.slice a ys.length ca) (.slice p ss.length cp) 29).up (w' := (w.alloc (.cells #[.slice a ys.length ca, .slice p ss.length cp] 29)).alloc (.cells #[.slice b ys.length cb, .slice q ss.length cq] 29)) ((Below.refl _ _).alloc (Nat.le_refl _) _)
  have s1 : (w.alloc (.cells #[.slice a ys.length ca, .slice p ss.length cp] 29)).heap.size = w.heap.size + 1 := by simp
  rw [s1] at T2
  have HT1 := hide T1
  have HT2 := hide T2
  clear T1 T2 s1
  go_enter Tryd.func25, Tryd.ntmps25
  go_wp2_with fail
  generalize (w.alloc (.cells #[.slice a ys.length ca, .slice p ss.length cp] 29)).alloc (.cells #[.slice b ys.length cb, .slice q ss.length cq] 29) = w2 at *
  refine (eqByteS_same w2 g g' a b ca cb ys (ha.l.up n2).rd (hb.l.up n2).rd hn).mono ?_
  rintro e w3 ⟨rfl, n3⟩
  have T1 := (unhide HT1).up n3
  have T2 := (unhide HT2).up n3
  have N3 := nxt n2 n3
  have k11 := T1.c0
  have k12 := T1.c1
  have k21 := T2.c0
  have k22 := T2.c1
  go_wp2_with fail
  refine (eqByteS_same w3 h h' p q cp cq ss (ha.r.up N3).rd (hb.r.up N3).rd hm).mono ?_
  rintro e w4 ⟨rfl, n4⟩
  go_wp2
  go_ret
  exact ⟨rfl, nxt N3 n4⟩

set_option maxHeartbeats 1000000 in
theorem markKeys_any (w : World) (g h : Nat) (a p : Option Addr) (ca cp : Nat) (ys ss : List Int) (k : Int) (ha : PrP w g a ys h p ss) (hn : ys.length ≤ 1048576) (hm : ss.length ≤ 1048576) (k0 : 0 ≤ k) (k1 : k ≤ 134217728) (l1 : 0 < ys.length → g ≠ h) (l2 : 0 < ss.length → g ≠ h) (lg : g < w.heap.size) :
    Calls Tryd.prog 26 #[.agg #[.slice a ys.length ca, .slice p ss.length cp], .int .i64 k] w fun e w' => e = .returned (.int .i64 (k + (ys.length : Int) + (ss.length : Int))) ∧ PrP w' g a (marks k ys.length) h p (marks (k + (ys.length : Int)) ss.length) ∧ ButP g h w w' := by
  have n1 : Below w.heap.size w (w.alloc (.cells #[.slice a ys.length ca, .slice p ss.length cp] 29)) := (Below.refl _ _).alloc (Nat.le_refl _) _
  have T1 := Two.new w (.slice a ys.length ca) (.slice p ss.length cp) 29
  go_enter Tryd.func26, Tryd.ntmps26
  go_wp2_with fail
  generalize w.alloc (.cells #[.slice a ys.length ca, .slice p ss.length cp] 29) = w1 at *
  have o1 := ha.up n1
  refine (markByteS_any w1 g a ca ys k o1.l hn k0 (by omega)).mono ?_
  rintro e w2 ⟨rfl, o2, O2⟩
  have T2 := T1.only O2 (by omega)
  have q2 := T2.c1
  have o3 := o1.r.only O2 (fun h => by have := l2 h; omega)
  go_wp2_with fail
  refine (markByteS_any w2 h p cp ss (k + (ys.length : Int)) o3 hm (by omega) (by omega)).mono ?_
  rintro e w3 ⟨rfl, o4, O4⟩
  go_wp2
  go_ret
  exact ⟨rfl, ⟨o2.only O4 (fun h => l1 (by simpa [marks] using h)), o4⟩, ButP.of n1 O2 O4⟩

set_option maxHeartbeats 1000000 in
theorem heldKeys_any (w : World) (g h : Nat) (a p : Option Addr) (ca cp n m : Nat) (k : Int) (ha : PrP w g a (marks k n) h p (marks (k + (n : Int)) m)) (hn : n ≤ 1048576) (hm : m ≤ 1048576) (k0 : 0 ≤ k) (k1 : k ≤ 134217728) :
    Calls Tryd.prog 27 #[.agg #[.slice a n ca, .slice p m cp], .int .i64 k] w fun e w' => e = .returned (.int .i64 (k + (n : Int) + (m : Int))) ∧ Below w.heap.size w w' := by
  have n1 : Below w.heap.size w (w.alloc (.cells #[.slice a n ca, .slice p m cp] 29)) := (Below.refl _ _).alloc (Nat.le_refl _) _
  have T1 := Two.new w (.slice a n ca) (.slice p m cp) 29
  have t1 : decide (k + (n : Int) < 0) = false := by simp; omega
  have t2 : decide (k + (n : Int) + (m : Int) < 0) = false := by simp; omega
  go_enter Tryd.func27, Tryd.ntmps27
  go_wp2_with fail
  generalize w.alloc (.cells #[.slice a n ca, .slice p m cp] 29) = w1 at *
  have o1 := ha.up n1
  refine (heldByteS_any w1 g a ca n k o1.l.rd hn k0 (by omega)).mono ?_
  rintro e w2 ⟨rfl, rfl⟩
  have q2 := T1.c1
  go_wp2_with fail
  refine (heldByteS_any w2 h p cp m (k + (n : Int)) o1.r.rd hm (by omega) (by omega)).mono ?_
  rintro e w3 ⟨rfl, rfl⟩
  go_wp2
  go_ret
  exact ⟨rfl, n1⟩
end Go.Proofs.YtnfciobpfiibcaaDoor

/-
  The model's TrafficKeys.
-/
namespace Go.Proofs.YtnfciobpfiibcaaDoor
set_option maxRecDepth 100000
open Go Go.RowKit

theorem implTrafficKeys_N (w : World) (hH : HasH w) {a : Option Addr} {c : Nat} {ks : List Int} (h1 : Lq w a c ks) :
    Calls Tryd.prog 24 #[.slice a ks.length c] w fun e w' => NewP2 w.heap.size w' e (tkK ks) (tkI ks) ∧ Below w.heap.size w w' := by
  refine (implTrafficKeys_any w hH h1).mono ?_
  rintro e w' ⟨⟨v, rfl, a1, a2, c1, c2, g1, g2, rfl, o1, o2, p1, p2, q1, q2, r1, r2, hd⟩, n⟩
  exact ⟨⟨a1, c1, g1, a2, c2, g2, rfl, o1, o2, r1, r2, fun h h' => by have := hd h h'; omega⟩, n⟩
/-- Keys that the call made. -/
def NewKs (B : Nat) (w' : World) (e : Ending) (xs ys : List Int) : Prop :=
  ∃ (a a' : Option Addr) (c c' g g' : Nat), e = .returned (.agg #[.slice a xs.length c, .slice a' ys.length c']) ∧ Own w' g a .u8 xs ∧ Own w' g' a' .u8 ys ∧ B ≤ g ∧ B ≤ g'
set_option maxHeartbeats 400000 in
theorem specTK_bad (w : World) (a : Option Addr) (m c : Nat) (t : ((m : Int) != 32) = true) :
    Calls Tryd.prog 23 #[.slice a m c] w fun e w' => NewKs w.heap.size w' e [] [] ∧ Below w.heap.size w w' := by
  obtain ⟨d3, hd3, hrow3⟩ := rowKy
  have n0 : Hid (Below w.heap.size w (w.alloc (.cells #[.slice none 0 0, .slice none 0 0] 29))) := (Below.refl _ _).alloc (Nat.le_refl _) _
  have RR : Hid ((w.alloc (.cells #[.slice none 0 0, .slice none 0 0] 29)).rangeAt w.heap.size 0 [.slice none 0 0, .slice none 0 0]) := by
    show World.rangeAt _ _ _ _
    intro j v hj
    have h : (w.alloc (.cells #[.slice none 0 0, .slice none 0 0] 29)).heap[w.heap.size]? = some (.cells #[.slice none 0 0, .slice none 0 0] 29 (0, 0)) := by show (w.heap.push _)[w.heap.size]? = _; simp
    rw [Nat.zero_add, cell_of_row _ _ _ _ _ _ h]
    simpa using hj
  go_enter Tryd.func23, Tryd.ntmps23
  go_wp2
  exact bodyPost_ret (v := .agg #[.slice none 0 0, .slice none 0 0]) (results_cell_m Tryd.results23 _ _ w.heap.size _ d3 rfl RR.out hd3 hrow3 iKy) rfl ⟨⟨none, none, 0, 0, w.heap.size, w.heap.size, rfl, Own.nil _ _ _ _, Own.nil _ _ _ _, Nat.le_refl _, Nat.le_refl _⟩, n0.out⟩
set_option maxHeartbeats 400000 in
theorem specTK_good (w : World) (a : Option Addr) (m c : Nat) (t : ((m : Int) != 32) = false) (kk ii : List Int)
    (CK : ∀ W, Below w.heap.size w W → Hid (Calls Tryd.prog 39 #[.slice a m c, .string ⟨#[107, 101, 121]⟩, .slice (some ⟨W.heap.size, 0, none⟩) 0 0, .int .i64 32] (W.alloc (.cells #[] 5)) fun e w' => NewRow (W.alloc (.cells #[] 5)).heap.size w' e .u8 kk ∧ Below (W.alloc (.cells #[] 5)).heap.size (W.alloc (.cells #[] 5)) w'))
    (CI : ∀ W, Below w.heap.size w W → Hid (Calls Tryd.prog 39 #[.slice a m c, .string ⟨#[105, 118]⟩, .slice (some ⟨W.heap.size, 0, none⟩) 0 0, .int .i64 12] (W.alloc (.cells #[] 5)) fun e w' => NewRow (W.alloc (.cells #[] 5)).heap.size w' e .u8 ii ∧ Below (W.alloc (.cells #[] 5)).heap.size (W.alloc (.cells #[] 5)) w')) :
    Calls Tryd.prog 23 #[.slice a m c] w fun e w' => NewKs w.heap.size w' e kk ii ∧ Below w.heap.size w w' := by
  obtain ⟨d3, hd3, hrow3⟩ := rowKy
  have n0 : Below w.heap.size w (w.alloc (.cells #[.slice none 0 0, .slice none 0 0] 29)) := (Below.refl _ _).alloc (Nat.le_refl _) _
  have T0 : (w.alloc (.cells #[.slice none 0 0, .slice none 0 0] 29)).there w.heap.size 0 2 := there2 (x := .slice none 0 0) (y := .slice none 0 0) (t := 29) (by show (w.heap.push _)[w.heap.size]? = _; simp)
  have z0 : w.heap.size < (w.alloc (.cells #[.slice none 0 0, .slice none 0 0] 29)).heap.size := by simp
  have AU : Hid (∀ W : World, Below W.heap.size W (W.alloc (.cells #[] 5))) := fun W => al0_up W
  have CKh := hide CK
  have CIh := hide CI
  clear CK CI
  go_enter Tryd.func23, Tryd.ntmps23
  go_upto_region 1 with fail
  generalize w.alloc (.cells #[.slice none 0 0, .slice none 0 0] 29) = wa at *
  have A0 := hide (AU.out wa)
  have C1 := CKh.out wa n0
  clear CKh
  have T0 := hide T0
  go_wp2_with fail
  refine C1.out.mono ?_
  rintro e w1 ⟨⟨a1, c1, g1, rfl, o1, p1, q1, r1⟩, n1⟩
  have N1 := nxt A0.out n1
  have M1 := nxt n0 N1
  have A1 := hide (AU.out w1)
  have C2 := CIh.out w1 M1
  have z1 := N1.size
  have zA := A0.out.size
  clear CIh AU C1
  go_wp2_with fail
  refine C2.out.mono ?_
  rintro e w2 ⟨⟨a2, c2, g2, rfl, o2, p2, q2, r2⟩, n2⟩
  have N2 := nxt A1.out n2
  have o1' := o1.up N2
  have z2 := N2.size
  have zB := A1.out.size
  have M2 := nxt M1 N2
  have th := there_upn (by omega) T0.out (nxt N1 N2)
  have RR := World.rangeAt_setCells_same w2 w.heap.size 0 [.slice a1 kk.length c1, .slice a2 ii.length c2] th
  have OQ := only_setCells w2 w.heap.size [.slice a1 kk.length c1, .slice a2 ii.length c2] 0
  have N3 : Below w.heap.size w (w2.setCells w.heap.size 0 [.slice a1 kk.length c1, .slice a2 ii.length c2]) := M2.trans (OQ.below (Nat.le_refl _))
  have x1 := o1'.only OQ (fun _ => by omega)
  have x2 := o2.only OQ (fun _ => by omega)
  clear OQ o1 o1' o2 C2
  go_wp2_with (refine wpList_store_mid rfl 29 (.tmp 2) (.tmp 13) rfl w.heap.size 0 #[.slice a1 kk.length c1, .slice a2 ii.length c2] rfl rfl ?hth ?hin ?hon ?_)
  case hth => exact th
  case hin => exact iKy
  case hon => exact one2 _ _ _ _ _ _
  exact bodyPost_ret (v := .agg #[.slice a1 kk.length c1, .slice a2 ii.length c2]) (results_cell_m Tryd.results23 _ _ w.heap.size _ d3 rfl RR hd3 hrow3 iKy) rfl ⟨⟨a1, a2, c1, c2, g1, g2, rfl, x1, x2, by omega, by omega⟩, N3⟩
theorem specTrafficKeys_any (w : World) {a : Option Addr} {c : Nat} {ks : List Int} (h1 : Lq w a c ks) :
    Calls Tryd.prog 23 #[.slice a ks.length c] w fun e w' => NewKs w.heap.size w' e (tkK ks) (tkI ks) ∧ Below w.heap.size w w' := by
  by_cases h : ks.length = 32
  · have e1 : tkK ks = labA ks lbK [] 32 := by unfold tkK; rw [if_pos h]
    have e2 : tkI ks = labA ks lbI [] 12 := by unfold tkI; rw [if_pos h]
    rw [e1, e2]
    exact specTK_good w a ks.length c (by rw [h]; rfl) _ _ (fun W n => specLab0 W ((h1.up n).up (al0_up W)) lbK (by decide) 32) (fun W n => specLab0 W ((h1.up n).up (al0_up W)) lbI (by decide) 12)
  · have e1 : tkK ks = [] := by unfold tkK; rw [if_neg h]
    have e2 : tkI ks = [] := by unfold tkI; rw [if_neg h]
    rw [e1, e2]
    exact specTK_bad w a ks.length c (bne_iff_ne.2 (by omega))
end Go.Proofs.YtnfciobpfiibcaaDoor

/-
  The law of TrafficKeys (written by gens/lktr.py).
-/
namespace Go.Proofs.YtnfciobpfiibcaaDoor
set_option maxRecDepth 100000
open Go Go.RowKit

theorem laid_trK {W : World} (h : laidMetH Tryd.prog Rows.fnExactTrafficKeysRow.laid W) : HasH W := ⟨start_of (reads_ofH h (by kernel_rfl) (.head _)), steps_of (reads_ofH h (by kernel_rfl) (.tail _ (.head _)))⟩
set_option maxHeartbeats 8000000 in
theorem tr_lawK (w : World) (g0 : Nat) (a0 : Option Addr) (c0 : Nat) (X0 : List Int) (hX0 : Rd w g0 a0 .u8 X0) (bX0 : Byt X0) (hL : HasH w) :
    Calls Tryd.prog 7 #[.slice a0 X0.length c0] w fun e w' => e = .returned (.bool true) ∧ Below w.heap.size w w' := by
  by_cases q0 : X0.length ≤ 1048576
  · skip
    have SP := fun W g a c (h : Rd W g a .u8 X0) (p : a = none → c = 0) (q : X0.length ≤ c) => specTrafficKeys_any W (a := a) (c := c) (ks := X0) ⟨⟨g, h⟩, bX0, p, q, q0⟩
    have IM := fun W g a c (h : Rd W g a .u8 X0) (p : a = none → c = 0) (q : X0.length ≤ c) (n : Below w.heap.size w W) => implTrafficKeys_N W (hL.up n) (a := a) (c := c) (ks := X0) ⟨⟨g, h⟩, bX0, p, q, q0⟩
    have lrx : (tkK X0).length ≤ 1048576 := tkK_len _
    obtain ⟨rx, hrx⟩ : ∃ l, l = tkK X0 := ⟨_, rfl⟩
    simp only [← hrx] at SP IM lrx
    clear hrx
    have lry : (tkI X0).length ≤ 1048576 := tkI_len _
    obtain ⟨ry, hry⟩ : ∃ l, l = tkI X0 := ⟨_, rfl⟩
    simp only [← hry] at SP IM lry
    clear hry
    clear hL
    have t0 : decide ((1048576 : Int) < (X0.length : Int)) = false := by simp; omega
    go_enter Tryd.func7, Tryd.ntmps7
    have N : Below w.heap.size w w := Below.refl _ _
    go_wp2_with fail
    refine (toByteS_any w g0 a0 c0 X0 (hX0.up N) (by omega)).mono ?_
    rintro e w1 ⟨rfl, m0x, n1⟩
    replace N := nxt N n1
    have zn1 := n1.size
    clear n1
    have m04 := m0x.lt
    go_wp2_with fail
    refine (SP w1 _ _ _ m0x.own0.rd (by simp) (Nat.le_refl _)).mono ?_
    rintro e w2 ⟨⟨sa, sa', sc, sc', sg, sg', rfl, so, so', sl, sl'⟩, n2⟩
    replace m0x := m0x.up n2
    replace N := nxt N n2
    have zn2 := n2.size
    clear n2
    have o4 : PrP w2 sg sa rx sg' sa' ry := ⟨so, so'⟩
    clear so so'
    have Y4 := hide o4.l.rd.lt
    have Y4' := hide o4.r.rd.lt
    clear m0x
    have T4 := Two.new w2 (.slice sa rx.length sc) (.slice sa' ry.length sc') 29
    have n3 : Below w2.heap.size w2 (w2.alloc (.cells #[.slice sa rx.length sc, .slice sa' ry.length sc'] 29)) := (Below.refl _ _).alloc (Nat.le_refl _) _
    replace o4 := o4.up n3
    replace N := nxt N n3
    clear n3
    go_wp2_with fail
    generalize w2.alloc (.cells #[.slice sa rx.length sc, .slice sa' ry.length sc'] 29) = w3 at *
    have uT4 := T4.lt
    refine (toByteS_any w3 g0 a0 c0 X0 (hX0.up N) (by omega)).mono ?_
    rintro e w4 ⟨rfl, x0x, n4⟩
    replace o4 := o4.up n4
    replace T4 := T4.up n4
    replace N := nxt N n4
    have zn4 := n4.size
    clear n4
    have x04 := x0x.lt
    go_wp2_with fail
    refine (IM w4 _ _ _ x0x.own0.rd (by simp) (Nat.le_refl _) N).mono ?_
    rintro e w5 ⟨NR, n5⟩
    have zn5 := n5.size
    obtain ⟨i6a, i6c, i6g, i6a', i6c', i6g', rfl, o6, i6l, i6h, i6l', i6h', i6r, i6r'⟩ := NR.at (B' := w3.heap.size) (by omega) (by omega)
    replace o4 := o4.up n5
    replace T4 := T4.up n5
    replace x0x := x0x.up n5
    replace N := nxt N n5
    clear n5
    have T6 := Two.new w5 (.slice i6a rx.length i6c) (.slice i6a' ry.length i6c') 29
    have n6 : Below w5.heap.size w5 (w5.alloc (.cells #[.slice i6a rx.length i6c, .slice i6a' ry.length i6c'] 29)) := (Below.refl _ _).alloc (Nat.le_refl _) _
    replace o4 := o4.up n6
    replace T4 := T4.up n6
    replace x0x := x0x.up n6
    replace o6 := o6.up n6
    replace N := nxt N n6
    clear n6
    have T60 := T6.c0
    have T61 := T6.c1
    have T40 := T4.c0
    have T41 := T4.c1
    go_wp2_with fail
    generalize w5.alloc (.cells #[.slice i6a rx.length i6c, .slice i6a' ry.length i6c'] 29) = w6 at *
    have uT6 := T6.lt
    refine (eqKeys_same w6 _ _ _ _ _ _ _ _ _ _ _ _ rx ry o6 o4 lrx lry).mono ?_
    rintro e w7 ⟨rfl, n7⟩
    clear T60 T61 T40 T41
    replace o4 := o4.up n7
    replace T4 := T4.up n7
    replace x0x := x0x.up n7
    replace o6 := o6.up n7
    replace T6 := T6.up n7
    replace N := nxt N n7
    have zn7 := n7.size
    clear n7
    go_wp2_with fail
    refine (toByteS_any w7 g0 a0 c0 X0 (hX0.up N) (by omega)).mono ?_
    rintro e w8 ⟨rfl, cx, n8⟩
    replace o4 := o4.up n8
    replace T4 := T4.up n8
    replace x0x := x0x.up n8
    replace o6 := o6.up n8
    replace T6 := T6.up n8
    replace N := nxt N n8
    have zn8 := n8.size
    clear n8
    go_wp2_with fail
    refine (eqByteS_same w8 _ _ _ _ _ _ X0 x0x.own0.rd cx.own0.rd (by omega)).mono ?_
    rintro e w9 ⟨rfl, n9⟩
    replace o4 := o4.up n9
    replace T4 := T4.up n9
    replace x0x := x0x.up n9
    replace o6 := o6.up n9
    replace T6 := T6.up n9
    replace cx := cx.up n9
    replace N := nxt N n9
    have zn9 := n9.size
    clear n9
    clear cx
    go_wp2_with fail
    refine (markByteS_any w9 _ _ _ X0 (1) x0x.own0 (by omega) (by omega) (by omega)).mono ?_
    rintro e w10 ⟨rfl, _, O10⟩
    have zz10 := O10.size
    clear x0x
    have NN := N.size
    replace N := N.trans (O10.below (B := w.heap.size) (by omega))
    clear NN
    replace o4 := o4.only O10 (fun h => by have := Y4.out h; omega) (fun h => by have := Y4'.out h; omega)
    replace T4 := T4.only O10 (by omega)
    replace o6 := o6.only O10 (fun h => by have := i6r h; omega) (fun h => by have := i6r' h; omega)
    replace T6 := T6.only O10 (by omega)
    clear O10
    have tk : decide ((1 + (X0.length : Int) : Int) < 0) = false := by simp; omega
    have T60 := T6.c0
    have T61 := T6.c1
    have T40 := T4.c0
    have T41 := T4.c1
    go_wp2_with fail
    refine (eqKeys_same w10 _ _ _ _ _ _ _ _ _ _ _ _ rx ry o6 o4 lrx lry).mono ?_
    rintro e w11 ⟨rfl, n11⟩
    clear T60 T61 T40 T41
    replace o4 := o4.up n11
    replace T4 := T4.up n11
    replace o6 := o6.up n11
    replace T6 := T6.up n11
    replace N := nxt N n11
    have zn11 := n11.size
    clear n11
    have T60 := T6.c0
    have T61 := T6.c1
    go_wp2_with fail
    refine (markKeys_any w11 i6g i6g' _ _ _ _ rx ry 1 o6 lrx lry (by omega) (by omega) (fun h => (i6r h).2) (fun h => (i6r' h).2) (by omega)).mono ?_
    rintro e w12 ⟨rfl, oH, OH⟩
    have zzH := OH.size
    clear T60 T61
    clear o6
    have NN := N.size
    replace N := N.trans (OH.below (B := w.heap.size) (by omega) (by omega) (by omega))
    clear NN
    replace o4 := o4.butP OH (fun h => ⟨by have := Y4.out h; omega, by have := Y4.out h; omega⟩) (fun h => ⟨by have := Y4'.out h; omega, by have := Y4'.out h; omega⟩)
    replace T4 := T4.butP OH (by omega) (by omega)
    replace T6 := T6.butP OH (by omega) (by omega)
    clear OH
    have t4 : decide ((1 : Int) + (rx.length : Int) + (ry.length : Int) < 0) = false := by simp; omega
    have T60 := T6.c0
    have T61 := T6.c1
    go_wp2_with fail
    refine (heldKeys_any w12 i6g i6g' _ _ _ _ rx.length ry.length 1 oH lrx lry (by omega) (by omega)).mono ?_
    rintro e w13 ⟨rfl, n13⟩
    clear T60 T61
    replace o4 := o4.up n13
    replace T4 := T4.up n13
    replace T6 := T6.up n13
    replace oH := oH.up n13
    replace N := nxt N n13
    have zn13 := n13.size
    clear n13
    go_wp2_with fail
    refine (toByteS_any w13 g0 a0 c0 X0 (hX0.up N) (by omega)).mono ?_
    rintro e w14 ⟨rfl, y0x, n14⟩
    replace o4 := o4.up n14
    replace T4 := T4.up n14
    replace T6 := T6.up n14
    replace oH := oH.up n14
    replace N := nxt N n14
    have zn14 := n14.size
    clear n14
    have y04 := y0x.lt
    go_wp2_with fail
    refine (IM w14 _ _ _ y0x.own0.rd (by simp) (Nat.le_refl _) N).mono ?_
    rintro e w15 ⟨NR, n15⟩
    have zn15 := n15.size
    obtain ⟨i9a, i9c, i9g, i9a', i9c', i9g', rfl, i9o, i9o', i9l, i9l', i9r⟩ := NR
    have o9 : PrP w15 i9g i9a rx i9g' i9a' ry := ⟨i9o, i9o'⟩
    clear i9o i9o'
    replace o4 := o4.up n15
    replace T4 := T4.up n15
    replace T6 := T6.up n15
    replace oH := oH.up n15
    replace y0x := y0x.up n15
    replace N := nxt N n15
    clear n15
    clear y0x
    have T9 := Two.new w15 (.slice i9a rx.length i9c) (.slice i9a' ry.length i9c') 29
    have n16 : Below w15.heap.size w15 (w15.alloc (.cells #[.slice i9a rx.length i9c, .slice i9a' ry.length i9c'] 29)) := (Below.refl _ _).alloc (Nat.le_refl _) _
    replace o4 := o4.up n16
    replace T4 := T4.up n16
    replace T6 := T6.up n16
    replace oH := oH.up n16
    replace o9 := o9.up n16
    replace N := nxt N n16
    clear n16
    have T90 := T9.c0
    have T91 := T9.c1
    have T40 := T4.c0
    have T41 := T4.c1
    go_wp2_with fail
    generalize w15.alloc (.cells #[.slice i9a rx.length i9c, .slice i9a' ry.length i9c'] 29) = w16 at *
    have uT9 := T9.lt
    refine (eqKeys_same w16 _ _ _ _ _ _ _ _ _ _ _ _ rx ry o9 o4 lrx lry).mono ?_
    rintro e w17 ⟨rfl, n17⟩
    clear T90 T91 T40 T41
    replace o4 := o4.up n17
    replace T4 := T4.up n17
    replace T6 := T6.up n17
    replace oH := oH.up n17
    replace o9 := o9.up n17
    replace T9 := T9.up n17
    replace N := nxt N n17
    have zn17 := n17.size
    clear n17
    clear o9 o4 T9 T4
    have T60 := T6.c0
    have T61 := T6.c1
    go_wp2_with fail
    refine (heldKeys_any w17 i6g i6g' _ _ _ _ rx.length ry.length 1 oH lrx lry (by omega) (by omega)).mono ?_
    rintro e w18 ⟨rfl, n18⟩
    clear T60 T61
    replace T6 := T6.up n18
    replace oH := oH.up n18
    replace N := nxt N n18
    have zn18 := n18.size
    clear n18
    go_wp2
    go_ret
    exact ⟨rfl, N⟩
  · skip
    have t0 : decide ((1048576 : Int) < (X0.length : Int)) = true := by simp; omega
    go_enter Tryd.func7, Tryd.ntmps7
    have N : Below w.heap.size w w := Below.refl _ _
    go_wp2
    go_ret
    exact ⟨rfl, N⟩
end Go.Proofs.YtnfciobpfiibcaaDoor
