import Derived.Test.YthonlkghkdjagaaGreatDoorGX49
import Derived.Test.YthonlkghkdjagaaGreatDoorRows
import Derived.Test.YthonlkghkdjagaaGreatDoorGX46
import Derived.Lib.LaidTab
import Derived.Lib.LaidU8
import Derived.LaidMore
import Derived.Test.YthonlkghkdjagaaGreatDoorGX44
import Derived.Test.YthonlkghkdjagaaGreatDoorGX45
import Derived.Test.YthonlkghkdjagaaGreatDoorGX41
import Derived.Test.YthonlkghkdjagaaGreatDoorGX48
namespace Go.Proofs.YthonlkghkdjagaaGreatDoor
set_option maxRecDepth 100000
open Go Go.RowKit
structure SgK (M P K ys J h r F J2 hq k oq : List Int) : Prop where
  lM : M.length = 32
  lF : F.length = 32
  lP : P.length = 32
  lK : K.length = 32
  lr : r.length = 32
  lk : k.length = 32
  lo : oq.length ≤ 32
  j1 : ∀ (W : World) (g gy : Nat) (a ay : Option Addr) (c cy : Nat), Rd W g a .u8 M → Rd W gy ay .u8 ys → (a = none → c = 0) → (ay = none → cy = 0) → Calls Tryz.prog 52 #[.slice a 32 c, .slice ay ys.length cy, .slice none 0 0] W fun e w' => NewRow W.heap.size w' e .u8 J ∧ Below W.heap.size W w'
  h1 : ∀ (W : World) (g : Nat) (a : Option Addr) (c : Nat), Rd W g a .u8 J → (a = none → c = 0) → Calls Tryz.prog 43 #[.slice a J.length c] W fun e w' => NewRow W.heap.size w' e .u8 h ∧ Below W.heap.size W w'
  r1 : ∀ (W : World) (g : Nat) (a : Option Addr) (c : Nat), Rd W g a .u8 h → Calls Tryz.prog 51 #[.slice a h.length c] W fun e w' => NewRow W.heap.size w' e .u8 r ∧ Below W.heap.size W w'
  t1 : ∀ (W : World) (g : Nat) (a : Option Addr) (c : Nat), Rd W g a .u8 r → Calls Tryz.prog 41 #[.slice a 32 c] W fun e w' => ∃ v, e = .returned v ∧ RowB w' W.heap.size v F ∧ Below W.heap.size W w'
  j2 : ∀ (W : World) (g1 g2 gy : Nat) (a1 a2 ay : Option Addr) (c1 c2 cy : Nat), Rd W g1 a1 .u8 F → Rd W g2 a2 .u8 P → Rd W gy ay .u8 ys → (a1 = none → c1 = 0) → (a2 = none → c2 = 0) → (ay = none → cy = 0) → Calls Tryz.prog 52 #[.slice a1 32 c1, .slice a2 32 c2, .slice ay ys.length cy] W fun e w' => NewRow W.heap.size w' e .u8 J2 ∧ Below W.heap.size W w'
  h2 : ∀ (W : World) (g : Nat) (a : Option Addr) (c : Nat), Rd W g a .u8 J2 → (a = none → c = 0) → Calls Tryz.prog 43 #[.slice a J2.length c] W fun e w' => NewRow W.heap.size w' e .u8 hq ∧ Below W.heap.size W w'
  r2 : ∀ (W : World) (g : Nat) (a : Option Addr) (c : Nat), Rd W g a .u8 hq → Calls Tryz.prog 51 #[.slice a hq.length c] W fun e w' => NewRow W.heap.size w' e .u8 k ∧ Below W.heap.size W w'
  om : ∀ (W : World) (g1 g2 g3 : Nat) (a1 a2 a3 : Option Addr) (c1 c2 c3 : Nat), Rd W g1 a1 .u8 k → Rd W g2 a2 .u8 K → Rd W g3 a3 .u8 r → Calls Tryz.prog 58 #[.slice a1 32 c1, .slice a2 32 c2, .slice a3 32 c3] W fun e w' => NewRow W.heap.size w' e .u8 oq ∧ Below W.heap.size W w'
theorem sgK_of (M P K ys : List Int) (lM : M.length = 32) (bM : Byt M) (lP : P.length = 32) (bP : Byt P) (lK : K.length = 32) (bK : Byt K) (by0 : Byt ys) (ly0 : ys.length ≤ 1048576) :
    SgK M P K ys (M ++ ys) (hashL64 (M ++ ys)) (ored (hashL64 (M ++ ys))) (sgR M ys) (sgR M ys ++ (P ++ ys)) (hashL64 (sgR M ys ++ (P ++ ys))) (ored (hashL64 (sgR M ys ++ (P ++ ys)))) (omul (ored (hashL64 (sgR M ys ++ (P ++ ys)))) K (ored (hashL64 (M ++ ys)))) where
  lM := lM
  lF := sgR_len M ys
  lP := lP
  lK := lK
  lr := ored_len32 _
  lk := ored_len32 _
  lo := omul_len _ _ _
  j1 W g gy a ay c cy h1 h2 p1 p2 := by
    have := l9Join_any W g gy 0 a ay none c cy 0 M ys [] h1 h2 (Rd.nil _ _ _ _) p1 p2 (fun _ => rfl) (by omega) ly0 (by simp)
    rw [lM, List.append_nil] at this
    exact this
  h1 W g a c h p := specHash_64 W g a c (M ++ ys) h (byt_apd bM by0) p (by rw [List.length_append]; omega)
  r1 W g a c h := specOrderReduce_any W g a c (hashL64 (M ++ ys)) h (hash64_byt _)
  t1 W g a c h := by
    have := l9TimesB_any W g a c (ored (hashL64 (M ++ ys))) h (ored_byt32 _) (ored_len32 _)
    rw [scV_ored, ored_len32, ← sgR] at this
    exact this
  j2 W g1 g2 gy a1 a2 ay c1 c2 cy h1 h2 h3 p1 p2 p3 := by
    have := l9Join_any W g1 g2 gy a1 a2 ay c1 c2 cy (sgR M ys) P ys h1 h2 h3 p1 p2 p3 (by rw [sgR_len]; omega) (by omega) ly0
    rw [sgR_len, lP] at this
    exact this
  h2 W g a c h p := specHash_64 W g a c (sgR M ys ++ (P ++ ys)) h (byt_apd (sgR_byt M ys) (byt_apd bP by0)) p (by rw [List.length_append, List.length_append, sgR_len, lP]; omega)
  r2 W g a c h := specOrderReduce_any W g a c (hashL64 (sgR M ys ++ (P ++ ys))) h (hash64_byt _)
  om W g1 g2 g3 a1 a2 a3 c1 c2 c3 h1 h2 h3 := by
    have := specOrderMulAdd_any W g1 g2 g3 a1 a2 a3 c1 c2 c3 _ K _ h1 h2 h3 (ored_byt32 _) bK (ored_byt32 _)
    rw [ored_len32, ored_len32, lK] at this
    exact this
set_option maxHeartbeats 1000000 in
theorem specSign_any (w : World) (g gy : Nat) (a ay : Option Addr) (c cy : Nat) (xs ys : List Int) (hr : Rd w g a .u8 xs) (hb : Byt xs) (hc : a = none → c = 0) (hy : Rd w gy ay .u8 ys) (by0 : Byt ys) (hcy : ay = none → cy = 0) (ly0 : ys.length ≤ 1048576) :
    Calls Tryz.prog 24 #[.slice a xs.length c, .slice ay ys.length cy] w fun r w' => NewRow w.heap.size w' r .u8 (snA xs ys) ∧ Below w.heap.size w w' := by
  by_cases hl : xs.length = 32
  · obtain ⟨i0, hi, hz0, hz1, hz2⟩ := info_parts Tryz.info5
    have SP := hide (fun W (n : Below w.heap.size w W) => specSignPublic_any W g a c xs (hr.up n) hb hc)
    rw [show spA xs = sgB (sgV (hashL64 xs)) by unfold spA; rw [if_pos hl]] at SP
    have SH : Hid (Calls Tryz.prog 43 #[.slice a xs.length c] w fun e w' => NewRow w.heap.size w' e .u8 (hashL64 xs) ∧ Below w.heap.size w w') := specHash_64 w g a c xs hr hb hc (by omega)
    have HL := hide (hash64_len xs)
    have HB := hide (hash64_byt xs)
    have HY := hide hy
    have HCY := hide hcy
    rw [show snA xs ys = sgnL (sgV (hashL64 xs) : Int) ((hashL64 xs).drop 32) (sgB (sgV (hashL64 xs))) ys by unfold snA; rw [if_pos hl]]
    generalize hashL64 xs = hs at *
    rw [hl] at SH SP ⊢
    rw [sgnL_omul hs _ _ ys HB.out HL.out]
    have lT : (hs.take 32).length = 32 := by rw [List.length_take, HL.out]; rfl
    have bT : Byt (hs.take 32) := byt_takeh HB.out 32
    have KK := hide (sgK_of (hs.drop 32) (sgB (sgV hs)) (clampL (hs.take 32)) ys (by rw [List.length_drop, HL.out]) (byt_drop HB.out 32) (en_len _) (en_byt (pv_mulB _)) ((clampL_len (hs.take 32)).trans lT) (clampL_byt bT lT) by0 ly0)
    have CLA := hide (fun W (g1 off c1 : Nat) (h : Rd W g1 (some ⟨g1, off, none⟩) .u8 (hs.take 32)) => specClamp_any W g1 (some ⟨g1, off, none⟩) c1 (hs.take 32) h bT (fun h => by cases h))
    rw [show clampA (hs.take 32) = clampL (hs.take 32) by unfold clampA; rw [if_pos lT], lT] at CLA
    clear hr hb hc hl hy hcy lT bT by0 ly0
    generalize omul (ored (hashL64 (sgR (hs.drop 32) ys ++ (sgB (sgV hs) ++ ys)))) (clampL (hs.take 32)) (ored (hashL64 (hs.drop 32 ++ ys))) = om at *
    generalize ored (hashL64 (sgR (hs.drop 32) ys ++ (sgB (sgV hs) ++ ys))) = k at *
    generalize hashL64 (sgR (hs.drop 32) ys ++ (sgB (sgV hs) ++ ys)) = h8 at *
    generalize sgR (hs.drop 32) ys ++ (sgB (sgV hs) ++ ys) = J2 at *
    generalize sgR (hs.drop 32) ys = F at *
    generalize ored (hashL64 (hs.drop 32 ++ ys)) = r at *
    generalize hashL64 (hs.drop 32 ++ ys) = h3 at *
    generalize hs.drop 32 ++ ys = J at *
    generalize sgB (sgV hs) = P at *
    generalize clampL (hs.take 32) = K at *
    go_enter Tryz.func24, Tryz.ntmps24
    go_wp2_with fail
    refine SH.out.mono ?_
    rintro e w1 ⟨⟨a1, c1, g1, rfl, o1, p1, q1, r1⟩, n1⟩
    obtain ⟨off, rfl, -⟩ := id o1 (by rw [HL.out]; omega)
    have q64 : 64 ≤ c1 := by rw [HL.out] at q1; exact q1
    have cne : ¬ (c1 = 32) := by omega
    have q32 : (32 : Int) ≤ (c1 : Int) := by omega
    have oM := o1.drop1n 32 (by rw [HL.out]; omega)
    have oT := hide (o1.rd.takeA 32)
    rw [HL.out]
    have J1 := hide (KK.out.j1 w1 g1 gy (some ⟨g1, off + 32, none⟩) ay (c1 - 32) cy oM.rd (HY.out.up n1) (fun h => by cases h) HCY.out)
    clear SH o1 p1 q1 oM
    go_wp2_with fail
    refine J1.out.mono ?_
    rintro e w2 ⟨⟨a2, c2, g2, rfl, o2, p2, q2, r2⟩, n2⟩
    have N2 := nxt n1 n2
    have H2 := hide (KK.out.h1 w2 g2 a2 c2 o2.rd p2)
    clear J1 o2 p2 q2 r2
    go_wp2_with fail
    refine H2.out.mono ?_
    rintro e w3 ⟨⟨a3, c3, g3, rfl, o3, p3, q3, r3⟩, n3⟩
    have N3 := nxt N2 n3
    have n13 := nxt n2 n3
    have OR := hide (KK.out.r1 w3 g3 a3 c3 o3.rd)
    clear H2 o3 p3 q3 r3 n2 n3 N2
    go_wp2_with fail
    refine OR.out.mono ?_
    rintro e w4 ⟨⟨a4, c4, g4, rfl, o4, p4, q4, r4⟩, n4⟩
    have N4 := nxt N3 n4
    have n14 := nxt n13 n4
    have TM := hide (KK.out.t1 w4 g4 a4 c4 o4.rd)
    rw [KK.out.lr]
    clear OR q4 r4 n4 N3 n13 p4
    go_wp2_with fail
    refine TM.out.mono ?_
    rintro e w5 ⟨v5, rfl, R5a, n5⟩
    have R5 := R5a.base (base' := w.heap.size) N4.size
    have N5 := nxt N4 n5
    have n15 := nxt n14 n5
    have o45 := o4.up n5
    have SP5 := hide (SP.out w5 N5)
    obtain ⟨a5, c5, g5, rfl, -, -, -, -⟩ := R5.rd
    rw [KK.out.lF] at R5 ⊢
    clear TM n5 n14 o4 SP R5a
    go_wp2_with fail
    refine SP5.out.mono ?_
    rintro e w6 ⟨⟨a6, c6, g6, rfl, o6, p6, q6, r6⟩, n6⟩
    have N6 := nxt N5 n6
    have n16 := nxt n15 n6
    have o46 := o45.up n6
    have R6 := R5.up n6
    obtain ⟨a5', c5', g5, e5, o5, p5, -, -⟩ := R6.rd
    rw [KK.out.lF] at e5
    cases e5
    have JJ := hide (KK.out.j2 w6 g5 g6 gy a5 a6 ay c5 c6 cy o5 o6.rd (HY.out.up N6) p5 p6 HCY.out)
    rw [KK.out.lP]
    clear SP5 n6 n15 o45 R5 o6 p6 q6 r6 o5 p5 N5
    go_wp2_with fail
    refine JJ.out.mono ?_
    rintro e w7 ⟨⟨a7, c7, g7, rfl, o7, p7, q7, r7⟩, n7⟩
    have N7 := nxt N6 n7
    have n17 := nxt n16 n7
    have o47 := o46.up n7
    have R7 := R6.up n7
    have H7 := hide (KK.out.h2 w7 g7 a7 c7 o7.rd p7)
    clear JJ o7 p7 q7 r7 n7 n16 o46 R6 N6
    go_wp2_with fail
    refine H7.out.mono ?_
    rintro e w8 ⟨⟨a8, c8, g8, rfl, o8, p8, q8, r8⟩, n8⟩
    have N8 := nxt N7 n8
    have n18 := nxt n17 n8
    have o48 := o47.up n8
    have R8 := R7.up n8
    have OR := hide (KK.out.r2 w8 g8 a8 c8 o8.rd)
    clear H7 o8 p8 q8 r8 n8 n17 o47 R7 N7
    go_wp2_with fail
    refine OR.out.mono ?_
    rintro e w9 ⟨⟨a9, c9, g9, rfl, o9, p9, q9, r9⟩, n9⟩
    have N9 := nxt N8 n9
    have n19 := nxt n18 n9
    have o49 := o48.up n9
    have R9 := R8.up n9
    have CL9 := hide (CLA.out w9 g1 off c1 (oT.out.up n19))
    rw [KK.out.lk]
    clear OR p9 q9 r9 n9 n18 o48 R8 N8 CLA
    go_wp2_with fail
    refine CL9.out.mono ?_
    rintro e wA ⟨⟨aA, cA, gA, rfl, oA, pA, qA, rA⟩, nA⟩
    have NA := nxt N9 nA
    have o4A := o49.up nA
    have o9A := o9.up nA
    have RA := R9.up nA
    have OM := hide (KK.out.om wA g9 gA g4 a9 aA a4 c9 cA c4 o9A.rd oA.rd o4A.rd)
    rw [KK.out.lK]
    clear CL9 nA n19 o49 o9 R9 N9 oA pA qA rA o4A o9A
    go_wp2_with fail
    refine OM.out.mono ?_
    rintro e wB ⟨⟨aB, cB, gB, rfl, oB, pB, qB, rB⟩, nB⟩
    have NB := nxt NA nB
    have RB' := RA.up nB
    obtain ⟨vC, wC, hap, RC, mC⟩ := append_any wB 22 i0 Tryz.underlying22 hi hz0 hz1 hz2 w.heap.size w.heap.size _ F RB' gB aB cB om oB.rd pB (by have := KK.out.lo; have := KK.out.lF; omega) (Nat.le_refl _) NB.size
    have NC := hide (NB.trans mC)
    obtain ⟨aC, cC, gC, rfl, oC, pC, qC, rC⟩ := RC.own
    have OC := hide oC
    have PC := hide pC
    have QC := hide qC
    clear OM nB NA NB RA RB' RC mC oB pB qB rB oC pC qC
    go_wp2_with (at_builtin; refine Lib.wpList_append_run _ rfl _ _ 22 22 rfl _ _ rfl rfl _ _ hap ?_)
    clear hap
    go_wp2
    go_ret
    exact ⟨⟨aC, cC, gC, by rw [List.length_append]; rfl, OC.out, PC.out, QC.out, rC⟩, NC.out⟩
  · have e : Hid (snA xs ys = []) := by show _ = _; unfold snA; rw [if_neg hl]
    have t1 : ((xs.length : Int) != 32) = true := by simp; omega
    have n0 : Hid (Below w.heap.size w (w.alloc (.cells #[] 5))) := (Below.refl _ _).alloc (Nat.le_refl _) _
    clear hl
    go_enter Tryz.func24, Tryz.ntmps24
    go_wp2
    go_ret
    rw [e.out]
    exact ⟨newRow_e w .u8, n0.out⟩
end Go.Proofs.YthonlkghkdjagaaGreatDoor
namespace Go.Proofs.YthonlkghkdjagaaGreatDoor
set_option maxRecDepth 100000
open Go.RowKit
theorem gSth : Tryz.prog.globalNamed "loop.example/g00004/impl.startWords" = some 5 := by kernel_rfl
theorem tSth : (Tryz.prog.globals[5]?).map (·.type) = some 84 := by kernel_rfl
theorem gSp : Tryz.prog.globalNamed "loop.example/g00004/impl.stepWords" = some 7 := by kernel_rfl
theorem tSp : (Tryz.prog.globals[7]?).map (·.type) = some 167 := by kernel_rfl
theorem uSt : Tryz.prog.underlying 84 = some (.array 8 42) := by kernel_rfl
theorem uSp : Tryz.prog.underlying 167 = some (.array 80 42) := by kernel_rfl
theorem cSt : Tryz.prog.cellsOf 84 = 8 := by kernel_rfl
theorem cSp : Tryz.prog.cellsOf 167 = 80 := by kernel_rfl
theorem cUw : Tryz.prog.cellsOf 42 = 1 := by kernel_rfl
theorem uUw : Tryz.prog.underlying 42 = some (.int .u64) := by kernel_rfl
theorem hasT_of {W : World} {n : String} {g : Nat} {ty : TypeId} {N : Nat} {l : List Int} (hn : Tryz.prog.globalNamed n = some g) (ht : (Tryz.prog.globals[g]?).map (·.type) = some ty) (hu : Tryz.prog.underlying ty = some (.array N 42)) (hc : Tryz.prog.cellsOf ty = N)
    (h : Lib.VarReads Tryz.prog W n (.agg (l.map fun x => .lit (.int .u64 x)))) : HasT W g l := by
  obtain ⟨g', t, cs, fuel, p, hg, ht', hv, hd⟩ := h
  obtain rfl := Option.some.inj (hn.symm.trans hg)
  obtain rfl := Option.some.inj (ht.symm.trans ht')
  have hcs := Lib.cells_of_tab (zs := l) hu uUw cUw hc hd
  intro k hk
  rw [World.var?_cell hg hv k]
  obtain ⟨m⟩ := cs
  simp only at hcs
  subst hcs
  simp [hk]
theorem reads_ofH {l : List (String × DataW Unit)} {W : World} (h : laidMetH Tryz.prog l W) (hp : (l.all fun x => x.2.handleName?.isNone) = true) {n : String} {d : DataW Unit} (hm : (n, d) ∈ l) : Lib.VarReads Tryz.prog W n d := by
  rw [MakeChecks.laidMetH_plain _ _ _ hp] at h
  exact Lib.laidMet.reads h hm
theorem start_of {W : World} (h : Lib.VarReads Tryz.prog W "loop.example/g00004/impl.startWords" Rows.laid_loop_example_g00004_impl_startWords) : HasT W 5 stLh := hasT_of gSth tSth uSt cSt h
theorem steps_of {W : World} (h : Lib.VarReads Tryz.prog W "loop.example/g00004/impl.stepWords" Rows.laid_loop_example_g00004_impl_stepWords) : HasT W 7 kL := hasT_of gSp tSp uSp cSp h
def HasH (W : World) : Prop := HasT W 5 stLh ∧ HasT W 7 kL
theorem HasH.up {w w' : World} (h : HasH w) (n : Below w.heap.size w w') : HasH w' := ⟨h.1.up n, h.2.up n⟩
end Go.Proofs.YthonlkghkdjagaaGreatDoor
namespace Go.Proofs.YthonlkghkdjagaaGreatDoor
set_option maxRecDepth 100000
theorem add_mod (p q : Int × Int) : addX p q % PP = (eadd (-1) d0 einv p q).1 % PP ∧ addY p q % PP = (eadd (-1) d0 einv p q).2 % PP := by
  have h := pAdd_pe p q
  have h1 := cong_dvd h.1
  have h2 := cong_dvd h.2
  unfold pAdd at h1 h2
  simp only [Int.emod_emod_of_dvd _ (Int.dvd_refl PP)] at h1 h2
  exact ⟨h1, h2⟩
end Go.Proofs.YthonlkghkdjagaaGreatDoor
namespace Go.Proofs.YthonlkghkdjagaaGreatDoor
set_option maxRecDepth 100000
open Go Go.RowKit
def HasA (w : World) : Prop := HasTw w 9 ∧ Em5 w 8 0 dGo ∧ HasSt w 13 ∧ Has3 w 10 12 5 4
theorem hasA_of {l : List (String × DataW Unit)} {W : World} (h : laidMetH Tryz.prog l W) (hp : (l.all fun x => x.2.handleName?.isNone) = true)
    (h1 : ("loop.example/g00004/impl.chainSteps", Rows.laid_loop_example_g00004_impl_chainSteps) ∈ l) (h2 : ("loop.example/g00004/impl.inverseStep", Rows.laid_loop_example_g00004_impl_inverseStep) ∈ l)
    (h3 : ("loop.example/g00004/impl.twiceP", Rows.laid_loop_example_g00004_impl_twiceP) ∈ l) (h4 : ("loop.example/g00004/impl.curveFactor", Rows.laid_loop_example_g00004_impl_curveFactor) ∈ l) : HasA W :=
  ⟨tw_of_reads (reads_of h hp h3), cf_of_reads (reads_of h hp h4), st_of_reads (reads_of h hp h1), three_of_reads gIn tIn (reads_of h hp h2)⟩
end Go.Proofs.YthonlkghkdjagaaGreatDoor
namespace Go.Proofs.YthonlkghkdjagaaGreatDoor
set_option maxRecDepth 100000
open Go Go.RowKit
end Go.Proofs.YthonlkghkdjagaaGreatDoor
namespace Go.Proofs.YthonlkghkdjagaaGreatDoor
set_option maxRecDepth 100000
open Go Go.RowKit
theorem snA_len (xs ys : List Int) : (snA xs ys).length ≤ 1048576 := by
  unfold snA
  split
  · unfold sgnL
    rw [List.length_append, sgR_len, fill_len]
    decide
  · simp
set_option maxHeartbeats 1000000 in
theorem implSign_any (w : World) (g gy : Nat) (a ay : Option Addr) (c cy : Nat) (xs ys : List Int) (hr : Rd w g a .u8 xs) (hb : Byt xs) (hc : xs.length ≤ c) (hy : Rd w gy ay .u8 ys) (by0 : Byt ys) (hcy : ys.length ≤ cy) (ly0 : ys.length ≤ 1048576) (H : HasN w) :
    Calls Tryz.prog 11 #[.slice a xs.length c, .slice ay ys.length cy] w fun r w' => NewRow w.heap.size w' r .u8 (snA xs ys) ∧ Below w.heap.size w w' := by
  by_cases hl : xs.length = 32
  · have e := show snA xs ys = sgnL (sgV (hashL64 xs) : Int) ((hashL64 xs).drop 32) (sgB (sgV (hashL64 xs))) ys by unfold snA; rw [if_pos hl]
    have NS := hide (newSigner_any w g a c xs hr hb hc (by omega) H.S H.A H.B)
    have HL := hide (hash64_len xs)
    have HB := hide (hash64_byt xs)
    rw [e]
    generalize hashL64 xs = hs at *
    rw [hl] at NS ⊢
    have SW := hide (sg_words HB.out HL.out)
    have LM := hide (show (hs.drop 32).length = 32 by rw [List.length_drop, HL.out])
    have BM := hide (byt_drop HB.out 32)
    have LP := hide (show (sgB (sgV hs)).length = 32 from en_len _)
    have BP := hide (show Byt (sgB (sgV hs)) from en_byt (pv_mulB _))
    rw [← SW.out.2]
    clear e hr hb hc hl
    go_enter Tryz.func11, Tryz.ntmps11
    go_wp2_with fail
    refine NS.out.mono ?_
    rintro r w1 ⟨⟨am, a1, cm, c1, gm, g1, rfl, oM, kM, o1, p1, q1, r1, -⟩, n1⟩
    have SG := hide (sign_any w1 _ SW.out.1 am a1 ay cm c1 cy gm g1 gy (hs.drop 32) (sgB (sgV hs)) ys oM.rd LM.out BM.out kM o1.rd LP.out BP.out q1 (hy.up n1) by0 hcy ly0 (H.up n1))
    have z1 := n1.size
    generalize (sgC (clw (wv (fun j => (hs.take 32).getD j 0) 32)) (.slice am 32 cm) (.slice a1 32 c1)).toArray = V at *
    clear NS oM kM o1 p1 q1 r1
    go_wp2_with fail
    refine SG.out.mono ?_
    rintro r w2 ⟨⟨a2, c2, g2, rfl, o2, p2, q2, r2⟩, n2⟩
    have N2 := nxt n1 n2
    clear SG n2
    go_wp2
    go_ret
    exact ⟨⟨a2, c2, g2, rfl, o2, p2, q2, by omega⟩, N2⟩
  · have e : Hid (snA xs ys = []) := by show _ = _; unfold snA; rw [if_neg hl]
    have t1 : ((xs.length : Int) != 32) = true := by simp; omega
    clear hl
    go_enter Tryz.func11, Tryz.ntmps11
    go_wp2
    go_ret
    rw [e.out]
    exact ⟨newRow_z w .u8, Below.refl _ _⟩
theorem laid_sign {W : World} (h : laidMetH Tryz.prog Rows.fnExactSignRow.laid W) : HasN W := by
  have A := hasA_of h (by kernel_rfl) (.head _) (.tail _ (.head _)) (.tail _ (.tail _ (.head _))) (.tail _ (.tail _ (.tail _ (.tail _ (.tail _ (.tail _ (.head _)))))))
  exact ⟨⟨A.1, A.2.1, zp_of_reads (reads_of h (by kernel_rfl) (.tail _ (.tail _ (.tail _ (.tail _ (.tail _ (.tail _ (.tail _ (.head _))))))))), A.2.2.1, A.2.2.2, bp_of_reads (reads_of h (by kernel_rfl) (.tail _ (.tail _ (.tail _ (.tail _ (.tail _ (.tail _ (.tail _ (.tail _ (.head _)))))))))) ⟩,
    start_of (reads_ofH h (by kernel_rfl) (.tail _ (.tail _ (.tail _ (.tail _ (.tail _ (.tail _ (.tail _ (.tail _ (.tail _ (.head _))))))))))), steps_of (reads_ofH h (by kernel_rfl) (.tail _ (.tail _ (.tail _ (.tail _ (.tail _ (.tail _ (.tail _ (.tail _ (.tail _ (.tail _ (.head _)))))))))))),
    ⟨q_of_reads (reads_ofq h (by kernel_rfl) (.tail _ (.tail _ (.tail _ (.head _))))), s_of_reads (reads_ofq h (by kernel_rfl) (.tail _ (.tail _ (.tail _ (.tail _ (.head _)))))), folds_of_reads (reads_ofq h (by kernel_rfl) (.tail _ (.tail _ (.tail _ (.tail _ (.tail _ (.head _)))))))⟩⟩
set_option maxHeartbeats 4000000 in
theorem sign_law (w : World) (g0 : Nat) (a0 : Option Addr) (c0 : Nat) (X0 : List Int) (hX0 : Rd w g0 a0 .u8 X0) (bX0 : Byt X0) (g1 : Nat) (a1 : Option Addr) (c1 : Nat) (X1 : List Int) (hX1 : Rd w g1 a1 .u8 X1) (bX1 : Byt X1) (hL : HasN w) :
    Calls Tryz.prog 6 #[.slice a0 X0.length c0, .slice a1 X1.length c1] w fun e w' => e = .returned (.bool true) ∧ Below w.heap.size w w' := by
  by_cases q0 : X0.length ≤ 1048576
  · have u0 : decide ((1048576 : Int) < (X0.length : Int)) = false := by simp; omega
    by_cases q1 : X1.length ≤ 1048576
    · have u1 : decide ((1048576 : Int) < (X1.length : Int)) = false := by simp; omega
      have SP := fun W g a c h (p : a = none → c = 0) (_ : X0.length ≤ c) g' a' c' h' (p' : a' = none → c' = 0) (_ : X1.length ≤ c') => specSign_any W g g' a a' c c' X0 X1 h bX0 p h' bX1 p' q1
      have IM := fun W g a c h (_ : a = none → c = 0) p g' a' c' h' (_ : a' = none → c' = 0) p' (n : Below w.heap.size w W) => implSign_any W g g' a a' c c' X0 X1 h bX0 p h' bX1 p' q1 (hL.up n)
      have hy : (snA X0 X1).length ≤ 1048576 := snA_len X0 X1
      obtain ⟨ys, hys⟩ : ∃ ys, ys = snA X0 X1 := ⟨_, rfl⟩
      simp only [← hys] at SP IM hy
      clear hys
      go_enter Tryz.func6, Tryz.ntmps6
      have N : Below w.heap.size w w := Below.refl _ _
      go_wp2_with fail
      refine (toByteS_any w g0 a0 c0 X0 (hX0.up N) q0).mono ?_
      rintro e w1 ⟨rfl, A0, m1⟩
      have zm1 := m1.size
      have lA0 := A0.lt
      replace N := nxt N m1
      clear m1
      go_wp2_with fail
      refine (toByteS_any w1 g1 a1 c1 X1 (hX1.up N) q1).mono ?_
      rintro e w2 ⟨rfl, A1, m2⟩
      have zm2 := m2.size
      have lA1 := A1.lt
      replace A0 := A0.up m2
      replace N := nxt N m2
      clear m2
      go_wp2_with fail
      refine (SP w2 _ _ _ A0.own0.rd (by simp) (Nat.le_refl _) _ _ _ A1.own0.rd (by simp) (Nat.le_refl _)).mono ?_
      rintro e w3 ⟨⟨aoS, coS, goS, rfl, oS, poS, koS, roS⟩, m3⟩
      have zm3 := m3.size
      have loS := oS.rd.lt
      clear poS koS
      replace A0 := A0.up m3
      replace A1 := A1.up m3
      replace N := nxt N m3
      clear m3
      clear A0 A1
      go_wp2_with fail
      refine (toByteS_any w3 g0 a0 c0 X0 (hX0.up N) q0).mono ?_
      rintro e w4 ⟨rfl, B0, m4⟩
      have zm4 := m4.size
      have lB0 := B0.lt
      replace oS := oS.up m4
      replace N := nxt N m4
      clear m4
      go_wp2_with fail
      refine (toByteS_any w4 g1 a1 c1 X1 (hX1.up N) q1).mono ?_
      rintro e w5 ⟨rfl, B1, m5⟩
      have zm5 := m5.size
      have lB1 := B1.lt
      replace oS := oS.up m5
      replace B0 := B0.up m5
      replace N := nxt N m5
      clear m5
      go_wp2_with fail
      refine (IM w5 _ _ _ B0.own0.rd (by simp) (Nat.le_refl _) _ _ _ B1.own0.rd (by simp) (Nat.le_refl _) N).mono ?_
      rintro e w6 ⟨⟨aoI, coI, goI, rfl, oI, poI, koI, roI⟩, m6⟩
      have zm6 := m6.size
      have loI := oI.rd.lt
      clear poI koI
      replace oS := oS.up m6
      replace B0 := B0.up m6
      replace B1 := B1.up m6
      replace N := nxt N m6
      clear m6
      go_wp2_with fail
      refine (eqByteS_same w6 _ _ _ _ _ _ ys oI.rd oS.rd hy).mono ?_
      rintro e w7 ⟨rfl, m7⟩
      have zm7 := m7.size
      replace oS := oS.up m7
      replace B0 := B0.up m7
      replace B1 := B1.up m7
      replace oI := oI.up m7
      replace N := nxt N m7
      clear m7
      go_wp2_with fail
      refine (toByteS_any w7 g0 a0 c0 X0 (hX0.up N) q0).mono ?_
      rintro e w8 ⟨rfl, E0, m8⟩
      have zm8 := m8.size
      have lE0 := E0.lt
      replace oS := oS.up m8
      replace B0 := B0.up m8
      replace B1 := B1.up m8
      replace oI := oI.up m8
      replace N := nxt N m8
      clear m8
      go_wp2_with fail
      refine (eqByteS_same w8 _ _ _ _ _ _ X0 B0.own0.rd E0.own0.rd q0).mono ?_
      rintro e w9 ⟨rfl, m9⟩
      have zm9 := m9.size
      replace oS := oS.up m9
      replace B0 := B0.up m9
      replace B1 := B1.up m9
      replace oI := oI.up m9
      replace E0 := E0.up m9
      replace N := nxt N m9
      clear m9
      clear E0
      go_wp2_with fail
      refine (toByteS_any w9 g1 a1 c1 X1 (hX1.up N) q1).mono ?_
      rintro e w10 ⟨rfl, E1, m10⟩
      have zm10 := m10.size
      have lE1 := E1.lt
      replace oS := oS.up m10
      replace B0 := B0.up m10
      replace B1 := B1.up m10
      replace oI := oI.up m10
      replace N := nxt N m10
      clear m10
      go_wp2_with fail
      refine (eqByteS_same w10 _ _ _ _ _ _ X1 B1.own0.rd E1.own0.rd q1).mono ?_
      rintro e w11 ⟨rfl, m11⟩
      have zm11 := m11.size
      replace oS := oS.up m11
      replace B0 := B0.up m11
      replace B1 := B1.up m11
      replace oI := oI.up m11
      replace E1 := E1.up m11
      replace N := nxt N m11
      clear m11
      clear E1
      go_wp2_with fail
      refine (markByteS_any w11 _ _ _ X0 (1) B0.own0 q0 (by omega) (by omega)).mono ?_
      rintro e w12 ⟨rfl, _, O0⟩
      replace oS := oS.only O0 (fun h => by have := loS h; omega)
      replace B1 := B1.of_block (O0.block _ (by omega))
      replace oI := oI.only O0 (fun h => by have := loI h; omega)
      replace N := N.trans (O0.below (B := w.heap.size) (by omega))
      have y0 := O0.size
      have zm12 : w11.heap.size ≤ w12.heap.size := Nat.le_of_eq y0.symm
      clear y0 O0 B0
      go_wp2_with fail
      refine (markByteS_any w12 _ _ _ X1 (1 + (X0.length : Int)) B1.own0 q1 (by omega) (by omega)).mono ?_
      rintro e w13 ⟨rfl, _, O1⟩
      replace oS := oS.only O1 (fun h => by have := loS h; omega)
      replace oI := oI.only O1 (fun h => by have := loI h; omega)
      replace N := N.trans (O1.below (B := w.heap.size) (by omega))
      have y1 := O1.size
      have zm13 : w12.heap.size ≤ w13.heap.size := Nat.le_of_eq y1.symm
      clear y1 O1 B1
      have v1 : decide (1 + (X0.length : Int) + (X1.length : Int) < 0) = false := by simp; omega
      go_wp2_with fail
      refine (eqByteS_same w13 _ _ _ _ _ _ ys oI.rd oS.rd hy).mono ?_
      rintro e w14 ⟨rfl, m14⟩
      have zm14 := m14.size
      replace oS := oS.up m14
      replace oI := oI.up m14
      replace N := nxt N m14
      clear m14
      go_wp2_with fail
      refine (markByteS_any w14 _ _ _ ys 1 oI hy (by decide) (by decide)).mono ?_
      rintro e w15 ⟨rfl, oA, OA⟩
      replace N := N.trans (OA.below (B := w.heap.size) (by omega))
      replace oS := oS.only OA (fun h => by have := loS h; omega)
      have v2 : decide ((1 : Int) + (ys.length : Int) < 0) = false := by simp; omega
      clear oI OA
      go_wp2_with fail
      refine (heldByteS_any w15 _ _ _ ys.length 1 oA.rd hy (by decide) (by decide)).mono ?_
      rintro e w16 ⟨rfl, rfl⟩
      clear loI lB0 lB1
      go_wp2_with fail
      refine (toByteS_any w16 g0 a0 c0 X0 (hX0.up N) q0).mono ?_
      rintro e w17 ⟨rfl, D0, m17⟩
      have zm17 := m17.size
      have lD0 := D0.lt
      replace oS := oS.up m17
      replace oA := oA.up m17
      replace N := nxt N m17
      clear m17
      go_wp2_with fail
      refine (toByteS_any w17 g1 a1 c1 X1 (hX1.up N) q1).mono ?_
      rintro e w18 ⟨rfl, D1, m18⟩
      have zm18 := m18.size
      have lD1 := D1.lt
      replace oS := oS.up m18
      replace oA := oA.up m18
      replace D0 := D0.up m18
      replace N := nxt N m18
      clear m18
      go_wp2_with fail
      refine (IM w18 _ _ _ D0.own0.rd (by simp) (Nat.le_refl _) _ _ _ D1.own0.rd (by simp) (Nat.le_refl _) N).mono ?_
      rintro e w19 ⟨⟨aoJ, coJ, goJ, rfl, oJ, poJ, koJ, roJ⟩, m19⟩
      have zm19 := m19.size
      have loJ := oJ.rd.lt
      clear poJ koJ
      replace oS := oS.up m19
      replace oA := oA.up m19
      replace D0 := D0.up m19
      replace D1 := D1.up m19
      replace N := nxt N m19
      clear m19
      go_wp2_with fail
      refine (eqByteS_same w19 _ _ _ _ _ _ ys oJ.rd oS.rd hy).mono ?_
      rintro e w20 ⟨rfl, m20⟩
      have zm20 := m20.size
      replace oS := oS.up m20
      replace oA := oA.up m20
      replace D0 := D0.up m20
      replace D1 := D1.up m20
      replace oJ := oJ.up m20
      replace N := nxt N m20
      clear m20
      go_wp2_with fail
      refine (heldByteS_any w20 _ _ _ ys.length 1 oA.rd hy (by decide) (by decide)).mono ?_
      rintro e w21 ⟨rfl, rfl⟩
      go_wp2
      go_ret
      exact ⟨rfl, N⟩
    · have u1 : decide ((1048576 : Int) < (X1.length : Int)) = true := by simp; omega
      go_enter Tryz.func6, Tryz.ntmps6
      go_wp2
      go_ret
      exact ⟨rfl, Below.refl _ _⟩
  · have u0 : decide ((1048576 : Int) < (X0.length : Int)) = true := by simp; omega
    go_enter Tryz.func6, Tryz.ntmps6
    go_wp2
    go_ret
    exact ⟨rfl, Below.refl _ _⟩
end Go.Proofs.YthonlkghkdjagaaGreatDoor
