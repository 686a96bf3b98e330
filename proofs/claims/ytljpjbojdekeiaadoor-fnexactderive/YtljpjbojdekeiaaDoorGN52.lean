import Derived.Test.YtljpjbojdekeiaaDoorXlB
import Derived.Test.YtljpjbojdekeiaaDoorXcS
import Derived.Test.YtljpjbojdekeiaaDoorRows
import Derived.Test.YtljpjbojdekeiaaDoorHsT
import Derived.Lib.LaidTab
import Derived.Lib.LaidU8
import Derived.LaidMore
import Derived.Test.YtljpjbojdekeiaaDoorHelp

/-
  ExpandLabel and Derive: the program's and the model's.
-/
namespace Go.Proofs.YtljpjbojdekeiaaDoor
set_option maxRecDepth 100000
open Go Go.RowKit

/-- The whole answer. -/
def labA (ks : List Int) (s : ByteArray) (ctx : List Int) (n : Int) : List Int := if (s.size ≤ 200 ∧ ctx.length ≤ 255) ∧ 0 ≤ n ∧ n ≤ 8160 then expL ks (infoL s ctx n.toNat) n.toNat else []
theorem labA_len (ks : List Int) (s : ByteArray) (ctx : List Int) (n : Int) : (labA ks s ctx n).length ≤ 8160 := by
  unfold labA
  split
  · rw [expL_len]; omega
  · simp
set_option maxHeartbeats 4000000 in
theorem implLabel_any (w : World) (g : Nat) (a : Option Addr) (c : Nat) (ks : List Int) (hr : Rd w g a .u8 ks) (hk : Byt ks) (hc : ks.length ≤ c) (hn : ks.length ≤ 1048576) (s : ByteArray) (hss : s.size ≤ 1048576) (gd : Nat) (ad : Option Addr) (cd : Nat) (ctx : List Int) (hd : Rd w gd ad .u8 ctx) (hx : Byt ctx) (hcd : ad = none → cd = 0) (hnd : ctx.length ≤ 1048576) (n : Int)
    (hS : HasT w 0 stL) (hT : HasT w 1 kL) :
    Calls Tryd.prog 44 #[.slice a ks.length c, .string s, .slice ad ctx.length cd, .int .i64 n] w fun e w' => NewRow w.heap.size w' e .u8 (labA ks s ctx n) ∧ Below w.heap.size w w' := by
  have IE := fun W => hide (isExpandable_any W n)
  by_cases c1 : s.size ≤ 200
  · have t1 : decide ((200 : Int) < (s.size : Int)) = false := by simp; omega
    by_cases c2 : ctx.length ≤ 255
    · have t2 : decide ((255 : Int) < (ctx.length : Int)) = false := by simp; omega
      by_cases hin : 0 ≤ n ∧ n ≤ 8160
      · have t0 : decide (0 ≤ n ∧ n ≤ 8160) = true := decide_eq_true hin
        rw [t0] at IE
        obtain ⟨N, rfl⟩ := Int.eq_ofNat_of_zero_le hin.1
        have hN : N ≤ 8160 := by omega
        have NK := hide (newKeyed_any w g a c ks hr hk hc (by omega) hS hT)
        have LI := hide (fun W (b : Below w.heap.size w W) => labelInfo_any W s c1 gd ad cd ctx (hd.up b) c2 hcd N hN)
        have IB := infoL_byt (N := N) c1 hx c2 hN
        have IL := infoL_len s ctx N
        have ED := hide (fun W v1 v2 g' a' c' (h' : Rd W g' a' .u8 (infoL s ctx N)) (p' : (infoL s ctx N).length ≤ c') (b : Below w.heap.size w W) (V1 : HV v1 (maskL (keyL ks) 54)) (V2 : HV v2 (maskL (keyL ks) 92)) => expandD W v1 v2 _ _ (infoL s ctx N) V1 V2 g' a' c' h' IB p' N hN (by rw [maskL_len]; omega) (by rw [maskL_len]; omega) (hT.up b))
        obtain ⟨rs, hrs⟩ : ∃ l, l = labA ks s ctx (N : Int) := ⟨_, rfl⟩
        have HR : Hid (tG (maskL (keyL ks) 54) (maskL (keyL ks) 92) (infoL s ctx N) N ((N + 31) / 32) = rs) := by
          show _ = _
          rw [hrs, tG_exp]
          unfold labA
          rw [if_pos ⟨⟨c1, c2⟩, hin⟩]
          rfl
        rw [← hrs]
        clear hrs hin t0 IL
        rw [HR.out] at ED
        generalize infoL s ctx N = inf at *
        go_enter Tryd.func44, Tryd.ntmps44
        go_wp2_with fail
        refine (IE w).out.mono ?_
        rintro r w0 ⟨rfl, rfl⟩
        go_wp2_with fail
        refine NK.out.mono ?_
        rintro r w1 ⟨⟨v1, v2, rfl, V1, V2⟩, n1⟩
        have ED1 := hide (fun W g' a' c' h' p' b => ED.out W v1 v2 g' a' c' h' p' b V1 V2)
        clear ED NK V1 V2
        generalize v1 ++ v2 = vs at *
        go_wp2_with fail
        refine (LI.out w1 n1).mono ?_
        rintro r w2 ⟨⟨a2, c2', g2, rfl, o2, p2, q2, r2⟩, n2⟩
        have N2 := nxt n1 n2
        go_wp2_with fail
        refine (ED1.out w2 g2 a2 c2' o2.rd q2 N2).mono ?_
        rintro r w3 ⟨⟨a3, c3, g3, rfl, o3, p3, q3, r3⟩, n3⟩
        have y1 := N2.size
        go_wp2
        go_ret
        exact ⟨⟨a3, c3, g3, rfl, o3, p3, q3, by omega⟩, nxt N2 n3⟩
      · have t0 : decide (0 ≤ n ∧ n ≤ 8160) = false := decide_eq_false hin
        rw [t0] at IE
        have e : labA ks s ctx n = [] := by unfold labA; rw [if_neg (fun h => hin h.2)]
        rw [e]
        go_enter Tryd.func44, Tryd.ntmps44
        go_wp2_with fail
        refine (IE w).out.mono ?_
        rintro r w0 ⟨rfl, rfl⟩
        go_wp2
        go_ret
        exact ⟨newRow_z _ _, Below.refl _ _⟩
    · have t2 : decide ((255 : Int) < (ctx.length : Int)) = true := by simp; omega
      have e : labA ks s ctx n = [] := by unfold labA; rw [if_neg (fun h => c2 h.1.2)]
      rw [e]
      go_enter Tryd.func44, Tryd.ntmps44
      go_wp2
      go_ret
      exact ⟨newRow_z _ _, Below.refl _ _⟩
  · have t1 : decide ((200 : Int) < (s.size : Int)) = true := by simp; omega
    have e : labA ks s ctx n = [] := by unfold labA; rw [if_neg (fun h => c1 h.1.1)]
    rw [e]
    go_enter Tryd.func44, Tryd.ntmps44
    go_wp2
    go_ret
    exact ⟨newRow_z _ _, Below.refl _ _⟩
set_option maxHeartbeats 4000000 in
theorem specLabel_any (w : World) (g : Nat) (a : Option Addr) (c : Nat) (ks : List Int) (hr : Rd w g a .u8 ks) (hk : Byt ks) (hc : a = none → c = 0) (hn : ks.length ≤ 1048576) (s : ByteArray) (hss : s.size ≤ 1048576) (gd : Nat) (ad : Option Addr) (cd : Nat) (ctx : List Int) (hd : Rd w gd ad .u8 ctx) (hx : Byt ctx) (hcd : ad = none → cd = 0) (hnd : ctx.length ≤ 1048576) (n : Int) :
    Calls Tryd.prog 43 #[.slice a ks.length c, .string s, .slice ad ctx.length cd, .int .i64 n] w fun e w' => NewRow w.heap.size w' e .u8 (labA ks s ctx n) ∧ Below w.heap.size w w' := by
  have hal : Below w.heap.size w (w.alloc (.cells #[] 5)) := (Below.refl _ _).alloc (Nat.le_refl _) _
  by_cases c1 : s.size ≤ 200
  · have t1 : decide ((200 : Int) < (s.size : Int)) = false := by simp; omega
    by_cases c2 : ctx.length ≤ 255
    · have t2 : decide ((255 : Int) < (ctx.length : Int)) = false := by simp; omega
      by_cases c3 : 0 ≤ n
      · have t3 : decide (n < 0) = false := by simp; omega
        by_cases c4 : n ≤ 8160
        · have t4 : decide (8160 < n) = false := by simp; omega
          obtain ⟨N, rfl⟩ := Int.eq_ofNat_of_zero_le c3
          have hN : N ≤ 8160 := by omega
          have LI := hide (l7Label_any w s c1 gd ad cd ctx hd c2 hcd N hN)
          have IB := infoL_byt (N := N) c1 hx c2 hN
          have IL := infoL_len s ctx N
          obtain ⟨rs, hrs⟩ : ∃ l, l = labA ks s ctx (N : Int) := ⟨_, rfl⟩
          have HR : Hid (expA ks (infoL s ctx N) (N : Int) = rs) := by
            show _ = _
            rw [hrs, expA_of _ _ hN]
            unfold labA
            rw [if_pos ⟨⟨c1, c2⟩, by omega⟩]
            rfl
          rw [← hrs]
          clear hrs
          have ILH : (infoL s ctx N).length ≤ 1048576 := by omega
          clear IL
          generalize infoL s ctx N = inf at *
          go_enter Tryd.func43, Tryd.ntmps43
          go_wp2_with fail
          refine LI.out.mono ?_
          rintro r w1 ⟨⟨a2, c2', g2, rfl, o2, p2, q2, r2⟩, n1⟩
          have SE := specExpand_any w1 g a c ks (hr.up n1) hk hc hn g2 a2 c2' inf o2.rd IB p2 ILH (N : Int)
          rw [HR.out] at SE
          have SH := hide SE
          clear SE LI
          go_wp2_with fail
          refine SH.out.mono ?_
          rintro r w3 ⟨⟨a3, c3, g3, rfl, o3, p3, q3, r3⟩, n3⟩
          have y1 := n1.size
          go_wp2
          go_ret
          exact ⟨⟨a3, c3, g3, rfl, o3, p3, q3, by omega⟩, nxt n1 n3⟩
        · have t4 : decide (8160 < n) = true := by simp; omega
          have e : labA ks s ctx n = [] := by unfold labA; rw [if_neg (fun h => c4 h.2.2)]
          rw [e]
          go_enter Tryd.func43, Tryd.ntmps43
          go_wp2
          go_ret
          exact ⟨newRow_e _ _, hal⟩
      · have t3 : decide (n < 0) = true := by simp; omega
        have e : labA ks s ctx n = [] := by unfold labA; rw [if_neg (fun h => c3 h.2.1)]
        rw [e]
        go_enter Tryd.func43, Tryd.ntmps43
        go_wp2
        go_ret
        exact ⟨newRow_e _ _, hal⟩
    · have t2 : decide ((255 : Int) < (ctx.length : Int)) = true := by simp; omega
      have e : labA ks s ctx n = [] := by unfold labA; rw [if_neg (fun h => c2 h.1.2)]
      rw [e]
      go_enter Tryd.func43, Tryd.ntmps43
      go_wp2
      go_ret
      exact ⟨newRow_e _ _, hal⟩
  · have t1 : decide ((200 : Int) < (s.size : Int)) = true := by simp; omega
    have e : labA ks s ctx n = [] := by unfold labA; rw [if_neg (fun h => c1 h.1.1)]
    rw [e]
    go_enter Tryd.func43, Tryd.ntmps43
    go_wp2
    go_ret
    exact ⟨newRow_e _ _, hal⟩
set_option maxHeartbeats 400000 in
theorem implDerive_any (w : World) (g : Nat) (a : Option Addr) (c : Nat) (ks : List Int) (hr : Rd w g a .u8 ks) (hk : Byt ks) (hc : ks.length ≤ c) (hn : ks.length ≤ 1048576) (s : ByteArray) (hss : s.size ≤ 1048576) (gd : Nat) (ad : Option Addr) (cd : Nat) (ctx : List Int) (hd : Rd w gd ad .u8 ctx) (hx : Byt ctx) (hcd : ad = none → cd = 0) (hnd : ctx.length ≤ 1048576)
    (hS : HasT w 0 stL) (hT : HasT w 1 kL) :
    Calls Tryd.prog 46 #[.slice a ks.length c, .string s, .slice ad ctx.length cd] w fun e w' => NewRow w.heap.size w' e .u8 (labA ks s ctx 32) ∧ Below w.heap.size w w' := by
  have M := hide (implLabel_any w g a c ks hr hk hc hn s hss gd ad cd ctx hd hx hcd hnd 32 hS hT)
  obtain ⟨rs, hrs⟩ : ∃ l, l = labA ks s ctx 32 := ⟨_, rfl⟩
  rw [← hrs] at M ⊢
  clear hrs
  go_enter Tryd.func46, Tryd.ntmps46
  go_wp2_with fail
  refine M.out.mono ?_
  rintro r w1 ⟨⟨a1, c1, g1, rfl, o1, p1, q1, r1⟩, n1⟩
  go_wp2
  go_ret
  exact ⟨⟨a1, c1, g1, rfl, o1, p1, q1, r1⟩, n1⟩
set_option maxHeartbeats 400000 in
theorem specDerive_any (w : World) (g : Nat) (a : Option Addr) (c : Nat) (ks : List Int) (hr : Rd w g a .u8 ks) (hk : Byt ks) (hc : a = none → c = 0) (hn : ks.length ≤ 1048576) (s : ByteArray) (hss : s.size ≤ 1048576) (gd : Nat) (ad : Option Addr) (cd : Nat) (ctx : List Int) (hd : Rd w gd ad .u8 ctx) (hx : Byt ctx) (hcd : ad = none → cd = 0) (hnd : ctx.length ≤ 1048576) :
    Calls Tryd.prog 45 #[.slice a ks.length c, .string s, .slice ad ctx.length cd] w fun e w' => NewRow w.heap.size w' e .u8 (labA ks s ctx 32) ∧ Below w.heap.size w w' := by
  have M := hide (specLabel_any w g a c ks hr hk hc hn s hss gd ad cd ctx hd hx hcd hnd 32)
  obtain ⟨rs, hrs⟩ : ∃ l, l = labA ks s ctx 32 := ⟨_, rfl⟩
  rw [← hrs] at M ⊢
  clear hrs
  go_enter Tryd.func45, Tryd.ntmps45
  go_wp2_with fail
  refine M.out.mono ?_
  rintro r w1 ⟨⟨a1, c1, g1, rfl, o1, p1, q1, r1⟩, n1⟩
  go_wp2
  go_ret
  exact ⟨⟨a1, c1, g1, rfl, o1, p1, q1, r1⟩, n1⟩
end Go.Proofs.YtljpjbojdekeiaaDoor

/-
  What the listed words give the walks of the hashes (written by gens/lhash.py).
-/
namespace Go.Proofs.YtljpjbojdekeiaaDoor
set_option maxRecDepth 100000
open Go.RowKit

theorem gSt : Tryd.prog.globalNamed "loop.example/g00004/impl.startWords" = some 0 := by kernel_rfl
theorem tSt : (Tryd.prog.globals[0]?).map (·.type) = some 92 := by kernel_rfl
theorem gSp : Tryd.prog.globalNamed "loop.example/g00004/impl.stepWords" = some 1 := by kernel_rfl
theorem tSp : (Tryd.prog.globals[1]?).map (·.type) = some 108 := by kernel_rfl
theorem uSt : Tryd.prog.underlying 92 = some (.array 8 58) := by kernel_rfl
theorem uSp : Tryd.prog.underlying 108 = some (.array 80 58) := by kernel_rfl
theorem cSt : Tryd.prog.cellsOf 92 = 8 := by kernel_rfl
theorem cSp : Tryd.prog.cellsOf 108 = 80 := by kernel_rfl
theorem cUw : Tryd.prog.cellsOf 58 = 1 := by kernel_rfl
theorem uUw : Tryd.prog.underlying 58 = some (.int .u64) := by kernel_rfl
theorem hasT_of {W : World} {n : String} {g : Nat} {ty : TypeId} {N : Nat} {l : List Int} (hn : Tryd.prog.globalNamed n = some g) (ht : (Tryd.prog.globals[g]?).map (·.type) = some ty) (hu : Tryd.prog.underlying ty = some (.array N 58)) (hc : Tryd.prog.cellsOf ty = N)
    (h : Lib.VarReads Tryd.prog W n (.agg (l.map fun x => .lit (.int .u64 x)))) : HasT W g l := by
  obtain ⟨g', t, cs, fuel, p, hg, ht', hv, hd⟩ := h
  obtain rfl := Option.some.inj (hn.symm.trans hg)
  obtain rfl := Option.some.inj (ht.symm.trans ht')
  have hcs := Lib.cells_of_tab (zs := l) hu uUw cUw hc hd
  intro k hk
  rw [World.var?_cell hg hv k]
  obtain ⟨m⟩ := cs
  simp only at hcs
  subst hcs
  simp [hk]
theorem reads_ofH {l : List (String × DataW Unit)} {W : World} (h : laidMetH Tryd.prog l W) (hp : (l.all fun x => x.2.handleName?.isNone) = true) {n : String} {d : DataW Unit} (hm : (n, d) ∈ l) : Lib.VarReads Tryd.prog W n d := by
  rw [MakeChecks.laidMetH_plain _ _ _ hp] at h
  exact Lib.laidMet.reads h hm
theorem start_of {W : World} (h : Lib.VarReads Tryd.prog W "loop.example/g00004/impl.startWords" Rows.laid_loop_example_g00004_impl_startWords) : HasT W 0 stL := hasT_of gSt tSt uSt cSt h
theorem steps_of {W : World} (h : Lib.VarReads Tryd.prog W "loop.example/g00004/impl.stepWords" Rows.laid_loop_example_g00004_impl_stepWords) : HasT W 1 kL := hasT_of gSp tSp uSp cSp h
def HasH (W : World) : Prop := HasT W 0 stL ∧ HasT W 1 kL
theorem HasH.up {w w' : World} (h : HasH w) (n : Below w.heap.size w w') : HasH w' := ⟨h.1.up n, h.2.up n⟩
end Go.Proofs.YtljpjbojdekeiaaDoor

/-
  The law of Derive (written by gens/lexs.py).
-/
namespace Go.Proofs.YtljpjbojdekeiaaDoor
set_option maxRecDepth 100000
open Go Go.RowKit

theorem laid_der {W : World} (h : laidMetH Tryd.prog Rows.fnExactDeriveRow.laid W) : HasH W := ⟨start_of (reads_ofH h (by kernel_rfl) (.head _)), steps_of (reads_ofH h (by kernel_rfl) (.tail _ (.head _)))⟩
set_option maxHeartbeats 4000000 in
theorem der_law (w : World) (g0 : Nat) (a0 : Option Addr) (c0 : Nat) (X0 : List Int) (hX0 : Rd w g0 a0 .u8 X0) (bX0 : Byt X0) (t1 : ByteArray) (_bt1 : t1.size ≤ maxLen) (g2 : Nat) (a2 : Option Addr) (c2 : Nat) (X2 : List Int) (hX2 : Rd w g2 a2 .u8 X2) (bX2 : Byt X2) (hL : HasH w) :
    Calls Tryd.prog 13 #[.slice a0 X0.length c0, .string t1, .slice a2 X2.length c2] w fun e w' => e = .returned (.bool true) ∧ Below w.heap.size w w' := by
  by_cases q0 : X0.length ≤ 1048576
  · have u0 : decide ((1048576 : Int) < (X0.length : Int)) = false := by simp; omega
    by_cases q1 : t1.size ≤ 1048576
    · have u1 : decide ((1048576 : Int) < (t1.size : Int)) = false := by simp; omega
      by_cases q2 : X2.length ≤ 1048576
      · have u2 : decide ((1048576 : Int) < (X2.length : Int)) = false := by simp; omega
        have SP := fun W g a c h (p : a = none → c = 0) (_ : X0.length ≤ c) g' a' c' h' (p' : a' = none → c' = 0) (_ : X2.length ≤ c') => specDerive_any W g a c X0 h bX0 p q0 t1 q1 g' a' c' X2 h' bX2 p' q2
        have IM := fun W g a c h (_ : a = none → c = 0) p g' a' c' h' (p' : a' = none → c' = 0) (_ : X2.length ≤ c') (n : Below w.heap.size w W) => implDerive_any W g a c X0 h bX0 p q0 t1 q1 g' a' c' X2 h' bX2 p' q2 (hL.1.up n) (hL.2.up n)
        have hy : (labA X0 t1 X2 32).length ≤ 1048576 := Nat.le_trans (labA_len X0 t1 X2 32) (by decide)
        obtain ⟨ys, hys⟩ : ∃ ys, ys = labA X0 t1 X2 32 := ⟨_, rfl⟩
        simp only [← hys] at SP IM hy
        clear hys
        go_enter Tryd.func13, Tryd.ntmps13
        have N : Below w.heap.size w w := Below.refl _ _
        go_wp2_with fail
        refine (toByteS_any w g0 a0 c0 X0 (hX0.up N) q0).mono ?_
        rintro e w1 ⟨rfl, A0, m1⟩
        have zm1 := m1.size
        have lA0 := A0.lt
        replace N := nxt N m1
        clear m1
        go_wp2_with fail
        refine (toByteS_any w1 g2 a2 c2 X2 (hX2.up N) q2).mono ?_
        rintro e w2 ⟨rfl, A2, m2⟩
        have zm2 := m2.size
        have lA2 := A2.lt
        replace A0 := A0.up m2
        replace N := nxt N m2
        clear m2
        go_wp2_with fail
        refine (SP w2 _ _ _ A0.own0.rd (by simp) (Nat.le_refl _) _ _ _ A2.own0.rd (by simp) (Nat.le_refl _)).mono ?_
        rintro e w3 ⟨⟨aoS, coS, goS, rfl, oS, poS, koS, roS⟩, m3⟩
        have zm3 := m3.size
        have loS := oS.rd.lt
        clear poS koS
        replace A0 := A0.up m3
        replace A2 := A2.up m3
        replace N := nxt N m3
        clear m3
        clear A0 A2
        go_wp2_with fail
        refine (toByteS_any w3 g0 a0 c0 X0 (hX0.up N) q0).mono ?_
        rintro e w4 ⟨rfl, B0, m4⟩
        have zm4 := m4.size
        have lB0 := B0.lt
        replace oS := oS.up m4
        replace N := nxt N m4
        clear m4
        go_wp2_with fail
        refine (toByteS_any w4 g2 a2 c2 X2 (hX2.up N) q2).mono ?_
        rintro e w5 ⟨rfl, B2, m5⟩
        have zm5 := m5.size
        have lB2 := B2.lt
        replace oS := oS.up m5
        replace B0 := B0.up m5
        replace N := nxt N m5
        clear m5
        go_wp2_with fail
        refine (IM w5 _ _ _ B0.own0.rd (by simp) (Nat.le_refl _) _ _ _ B2.own0.rd (by simp) (Nat.le_refl _) N).mono ?_
        rintro e w6 ⟨⟨aoI, coI, goI, rfl, oI, poI, koI, roI⟩, m6⟩
        have zm6 := m6.size
        have loI := oI.rd.lt
        clear poI koI
        replace oS := oS.up m6
        replace B0 := B0.up m6
        replace B2 := B2.up m6
        replace N := nxt N m6
        clear m6
        go_wp2_with fail
        refine (eqByteS_same w6 _ _ _ _ _ _ ys oI.rd oS.rd hy).mono ?_
        rintro e w7 ⟨rfl, m7⟩
        have zm7 := m7.size
        replace oS := oS.up m7
        replace B0 := B0.up m7
        replace B2 := B2.up m7
        replace oI := oI.up m7
        replace N := nxt N m7
        clear m7
        go_wp2_with fail
        refine (toByteS_any w7 g0 a0 c0 X0 (hX0.up N) q0).mono ?_
        rintro e w8 ⟨rfl, E0, m8⟩
        have zm8 := m8.size
        have lE0 := E0.lt
        replace oS := oS.up m8
        replace B0 := B0.up m8
        replace B2 := B2.up m8
        replace oI := oI.up m8
        replace N := nxt N m8
        clear m8
        go_wp2_with fail
        refine (eqByteS_same w8 _ _ _ _ _ _ X0 B0.own0.rd E0.own0.rd q0).mono ?_
        rintro e w9 ⟨rfl, m9⟩
        have zm9 := m9.size
        replace oS := oS.up m9
        replace B0 := B0.up m9
        replace B2 := B2.up m9
        replace oI := oI.up m9
        replace E0 := E0.up m9
        replace N := nxt N m9
        clear m9
        clear E0
        go_wp2_with fail
        refine (toByteS_any w9 g2 a2 c2 X2 (hX2.up N) q2).mono ?_
        rintro e w10 ⟨rfl, E2, m10⟩
        have zm10 := m10.size
        have lE2 := E2.lt
        replace oS := oS.up m10
        replace B0 := B0.up m10
        replace B2 := B2.up m10
        replace oI := oI.up m10
        replace N := nxt N m10
        clear m10
        go_wp2_with fail
        refine (eqByteS_same w10 _ _ _ _ _ _ X2 B2.own0.rd E2.own0.rd q2).mono ?_
        rintro e w11 ⟨rfl, m11⟩
        have zm11 := m11.size
        replace oS := oS.up m11
        replace B0 := B0.up m11
        replace B2 := B2.up m11
        replace oI := oI.up m11
        replace E2 := E2.up m11
        replace N := nxt N m11
        clear m11
        clear E2
        go_wp2_with fail
        refine (markByteS_any w11 _ _ _ X0 (1) B0.own0 q0 (by omega) (by omega)).mono ?_
        rintro e w12 ⟨rfl, _, O0⟩
        replace oS := oS.only O0 (fun h => by have := loS h; omega)
        replace B2 := B2.of_block (O0.block _ (by omega))
        replace oI := oI.only O0 (fun h => by have := loI h; omega)
        replace N := N.trans (O0.below (B := w.heap.size) (by omega))
        have y0 := O0.size
        have zm12 : w11.heap.size ≤ w12.heap.size := Nat.le_of_eq y0.symm
        clear y0 O0 B0
        go_wp2_with fail
        refine (markByteS_any w12 _ _ _ X2 (1 + (X0.length : Int)) B2.own0 q2 (by omega) (by omega)).mono ?_
        rintro e w13 ⟨rfl, _, O2⟩
        replace oS := oS.only O2 (fun h => by have := loS h; omega)
        replace oI := oI.only O2 (fun h => by have := loI h; omega)
        replace N := N.trans (O2.below (B := w.heap.size) (by omega))
        have y2 := O2.size
        have zm13 : w12.heap.size ≤ w13.heap.size := Nat.le_of_eq y2.symm
        clear y2 O2 B2
        have v1 : decide (1 + (X0.length : Int) + (X2.length : Int) < 0) = false := by simp; omega
        go_wp2_with fail
        refine (eqByteS_same w13 _ _ _ _ _ _ ys oI.rd oS.rd hy).mono ?_
        rintro e w14 ⟨rfl, m14⟩
        have zm14 := m14.size
        replace oS := oS.up m14
        replace oI := oI.up m14
        replace N := nxt N m14
        clear m14
        go_wp2_with fail
        refine (markByteS_any w14 _ _ _ ys 1 oI hy (by decide) (by decide)).mono ?_
        rintro e w15 ⟨rfl, oA, OA⟩
        replace N := N.trans (OA.below (B := w.heap.size) (by omega))
        replace oS := oS.only OA (fun h => by have := loS h; omega)
        have v2 : decide ((1 : Int) + (ys.length : Int) < 0) = false := by simp; omega
        clear oI OA
        go_wp2_with fail
        refine (heldByteS_any w15 _ _ _ ys.length 1 oA.rd hy (by decide) (by decide)).mono ?_
        rintro e w16 ⟨rfl, rfl⟩
        clear loI lB0 lB2
        go_wp2_with fail
        refine (toByteS_any w16 g0 a0 c0 X0 (hX0.up N) q0).mono ?_
        rintro e w17 ⟨rfl, D0, m17⟩
        have zm17 := m17.size
        have lD0 := D0.lt
        replace oS := oS.up m17
        replace oA := oA.up m17
        replace N := nxt N m17
        clear m17
        go_wp2_with fail
        refine (toByteS_any w17 g2 a2 c2 X2 (hX2.up N) q2).mono ?_
        rintro e w18 ⟨rfl, D2, m18⟩
        have zm18 := m18.size
        have lD2 := D2.lt
        replace oS := oS.up m18
        replace oA := oA.up m18
        replace D0 := D0.up m18
        replace N := nxt N m18
        clear m18
        go_wp2_with fail
        refine (IM w18 _ _ _ D0.own0.rd (by simp) (Nat.le_refl _) _ _ _ D2.own0.rd (by simp) (Nat.le_refl _) N).mono ?_
        rintro e w19 ⟨⟨aoJ, coJ, goJ, rfl, oJ, poJ, koJ, roJ⟩, m19⟩
        have zm19 := m19.size
        have loJ := oJ.rd.lt
        clear poJ koJ
        replace oS := oS.up m19
        replace oA := oA.up m19
        replace D0 := D0.up m19
        replace D2 := D2.up m19
        replace N := nxt N m19
        clear m19
        go_wp2_with fail
        refine (eqByteS_same w19 _ _ _ _ _ _ ys oJ.rd oS.rd hy).mono ?_
        rintro e w20 ⟨rfl, m20⟩
        have zm20 := m20.size
        replace oS := oS.up m20
        replace oA := oA.up m20
        replace D0 := D0.up m20
        replace D2 := D2.up m20
        replace oJ := oJ.up m20
        replace N := nxt N m20
        clear m20
        go_wp2_with fail
        refine (heldByteS_any w20 _ _ _ ys.length 1 oA.rd hy (by decide) (by decide)).mono ?_
        rintro e w21 ⟨rfl, rfl⟩
        go_wp2
        go_ret
        exact ⟨rfl, N⟩
      · have u2 : decide ((1048576 : Int) < (X2.length : Int)) = true := by simp; omega
        go_enter Tryd.func13, Tryd.ntmps13
        go_wp2
        go_ret
        exact ⟨rfl, Below.refl _ _⟩
    · have u1 : decide ((1048576 : Int) < (t1.size : Int)) = true := by simp; omega
      go_enter Tryd.func13, Tryd.ntmps13
      go_wp2
      go_ret
      exact ⟨rfl, Below.refl _ _⟩
  · have u0 : decide ((1048576 : Int) < (X0.length : Int)) = true := by simp; omega
    go_enter Tryd.func13, Tryd.ntmps13
    go_wp2
    go_ret
    exact ⟨rfl, Below.refl _ _⟩
end Go.Proofs.YtljpjbojdekeiaaDoor
