
/-
  The law of CertFault.
-/
import Derived.Test.YtheggghidhjplaaCfF
import Derived.Test.YtheggghidhjplaaRgV
namespace Go.Proofs.Ytheggghidhjplaa
open Go Go.RowKit

set_option maxHeartbeats 16000000 in
theorem eqCert_same (w : World) (p q : CP) (C : Crt) (hp : HasC w p C) (hq : HasC w q C) (l1 : C.ser.length ≤ 1048576) (l2 : C.key.length ≤ 1048576) (l3 : C.hos.length ≤ 1048576) (l4 : C.prm.length ≤ 1048576) (l5 : C.exc.length ≤ 1048576) (l6 : C.sig.length ≤ 1048576) :
    Calls Try.prog 47 #[.agg (crt p C), .agg (crt q C)] w fun e w' => e = .returned (.bool true) ∧ Below w.heap.size w w' := by
  obtain ⟨ser, iss, sub, frm, unt, key, hos, aut, lim, use, prm, exc, sig⟩ := C
  obtain ⟨a0, c0, g0, a5, c5, g5, a6, c6, g6, a10, c10, g10, a11, c11, g11, a12, c12, g12⟩ := p
  obtain ⟨e0, d0, j0, e5, d5, j5, e6, d6, j6, e10, d10, j10, e11, d11, j11, e12, d12, j12⟩ := q
  have HP := hide hp
  have HQ := hide hq
  clear hp hq
  simp only at l1 l2 l3 l4 l5 l6
  have x1 : (iss == iss) = true := by simp
  have x2 : (sub == sub) = true := by simp
  simp only [crt]
  have m1 : Below w.heap.size w (w.alloc (.cells #[.slice a0 ser.length c0, .string ⟨⟨iss⟩⟩, .string ⟨⟨sub⟩⟩, .int .i64 frm, .int .i64 unt, .slice a5 key.length c5, .slice a6 hos.length c6, .bool aut, .int .i64 lim, .int .i64 use, .slice a10 prm.length c10, .slice a11 exc.length c11, .slice a12 sig.length c12] 59)) := (Below.refl _ _).alloc (Nat.le_refl _) _
  have T1 := Thr.new w #[.slice a0 ser.length c0, .string ⟨⟨iss⟩⟩, .string ⟨⟨sub⟩⟩, .int .i64 frm, .int .i64 unt, .slice a5 key.length c5, .slice a6 hos.length c6, .bool aut, .int .i64 lim, .int .i64 use, .slice a10 prm.length c10, .slice a11 exc.length c11, .slice a12 sig.length c12] 59
  have z1 : (w.alloc (.cells #[.slice a0 ser.length c0, .string ⟨⟨iss⟩⟩, .string ⟨⟨sub⟩⟩, .int .i64 frm, .int .i64 unt, .slice a5 key.length c5, .slice a6 hos.length c6, .bool aut, .int .i64 lim, .int .i64 use, .slice a10 prm.length c10, .slice a11 exc.length c11, .slice a12 sig.length c12] 59)).heap.size = w.heap.size + 1 := by simp
  have T2 := Thr.new (w.alloc (.cells #[.slice a0 ser.length c0, .string ⟨⟨iss⟩⟩, .string ⟨⟨sub⟩⟩, .int .i64 frm, .int .i64 unt, .slice a5 key.length c5, .slice a6 hos.length c6, .bool aut, .int .i64 lim, .int .i64 use, .slice a10 prm.length c10, .slice a11 exc.length c11, .slice a12 sig.length c12] 59)) #[.slice e0 ser.length d0, .string ⟨⟨iss⟩⟩, .string ⟨⟨sub⟩⟩, .int .i64 frm, .int .i64 unt, .slice e5 key.length d5, .slice e6 hos.length d6, .bool aut, .int .i64 lim, .int .i64 use, .slice e10 prm.length d10, .slice e11 exc.length d11, .slice e12 sig.length d12] 59
  have m2 : Below (w.alloc (.cells #[.slice a0 ser.length c0, .string ⟨⟨iss⟩⟩, .string ⟨⟨sub⟩⟩, .int .i64 frm, .int .i64 unt, .slice a5 key.length c5, .slice a6 hos.length c6, .bool aut, .int .i64 lim, .int .i64 use, .slice a10 prm.length c10, .slice a11 exc.length c11, .slice a12 sig.length c12] 59)).heap.size (w.alloc (.cells #[.slice a0 ser.length c0, .string ⟨⟨iss⟩⟩, .string ⟨⟨sub⟩⟩, .int .i64 frm, .int .i64 unt, .slice a5 key.length c5, .slice a6 hos.length c6, .bool aut, .int .i64 lim, .int .i64 use, .slice a10 prm.length c10, .slice a11 exc.length c11, .slice a12 sig.length c12] 59)) ((w.alloc (.cells #[.slice a0 ser.length c0, .string ⟨⟨iss⟩⟩, .string ⟨⟨sub⟩⟩, .int .i64 frm, .int .i64 unt, .slice a5 key.length c5, .slice a6 hos.length c6, .bool aut, .int .i64 lim, .int .i64 use, .slice a10 prm.length c10, .slice a11 exc.length c11, .slice a12 sig.length c12] 59)).alloc (.cells #[.slice e0 ser.length d0, .string ⟨⟨iss⟩⟩, .string ⟨⟨sub⟩⟩, .int .i64 frm, .int .i64 unt, .slice e5 key.length d5, .slice e6 hos.length d6, .bool aut, .int .i64 lim, .int .i64 use, .slice e10 prm.length d10, .slice e11 exc.length d11, .slice e12 sig.length d12] 59)) := (Below.refl _ _).alloc (Nat.le_refl _) _
  rw [z1] at T2
  have TA := hide (T1.up m2)
  have TB := hide T2
  have N := hide (nxt m1 m2)
  clear m1 m2 T1 T2 z1
  cases aut
  all_goals
    go_enter Try.func47, Try.ntmps47
    go_wp2_with fail
    refine (eqByteS_same _ g0 j0 a0 e0 c0 d0 ser (HP.out.up N.out).ser (HQ.out.up N.out).ser l1).mono ?_
    rintro e V0 ⟨rfl, m⟩
    have N' := hide (nxt N.out m)
    have TA' := hide (TA.out.up m)
    have TB' := hide (TB.out.up m)
    clear m N TA TB
    have N := N'
    have TA := TA'
    have TB := TB'
    clear N' TA' TB'
    have ka1 := TA.out.cell 1 _ rfl
    have kb1 := TB.out.cell 1 _ rfl
    have ka2 := TA.out.cell 2 _ rfl
    have kb2 := TB.out.cell 2 _ rfl
    have ka3 := TA.out.cell 3 _ rfl
    have kb3 := TB.out.cell 3 _ rfl
    have ka4 := TA.out.cell 4 _ rfl
    have kb4 := TB.out.cell 4 _ rfl
    have ka5 := TA.out.cell 5 _ rfl
    have kb5 := TB.out.cell 5 _ rfl
    go_wp2_with fail
    refine (eqByteS_same _ g5 j5 a5 e5 c5 d5 key (HP.out.up N.out).key (HQ.out.up N.out).key l2).mono ?_
    rintro e V5 ⟨rfl, m⟩
    have N' := hide (nxt N.out m)
    have TA' := hide (TA.out.up m)
    have TB' := hide (TB.out.up m)
    clear m N TA TB
    have N := N'
    have TA := TA'
    have TB := TB'
    clear N' TA' TB'
    clear ka1 kb1 ka2 kb2 ka3 kb3 ka4 kb4 ka5 kb5
    have ka6 := TA.out.cell 6 _ rfl
    have kb6 := TB.out.cell 6 _ rfl
    go_wp2_with fail
    refine (eqStringS_same _ g6 j6 a6 e6 c6 d6 hos (HP.out.up N.out).hos (HQ.out.up N.out).hos l3).mono ?_
    rintro e V6 ⟨rfl, m⟩
    have N' := hide (nxt N.out m)
    have TA' := hide (TA.out.up m)
    have TB' := hide (TB.out.up m)
    clear m N TA TB
    have N := N'
    have TA := TA'
    have TB := TB'
    clear N' TA' TB'
    clear ka6 kb6
    have ka7 := TA.out.cell 7 _ rfl
    have kb7 := TB.out.cell 7 _ rfl
    have ka8 := TA.out.cell 8 _ rfl
    have kb8 := TB.out.cell 8 _ rfl
    have ka9 := TA.out.cell 9 _ rfl
    have kb9 := TB.out.cell 9 _ rfl
    have ka10 := TA.out.cell 10 _ rfl
    have kb10 := TB.out.cell 10 _ rfl
    go_wp2_with fail
    refine (eqStringS_same _ g10 j10 a10 e10 c10 d10 prm (HP.out.up N.out).prm (HQ.out.up N.out).prm l4).mono ?_
    rintro e V10 ⟨rfl, m⟩
    have N' := hide (nxt N.out m)
    have TA' := hide (TA.out.up m)
    have TB' := hide (TB.out.up m)
    clear m N TA TB
    have N := N'
    have TA := TA'
    have TB := TB'
    clear N' TA' TB'
    clear ka7 kb7 ka8 kb8 ka9 kb9 ka10 kb10
    have ka11 := TA.out.cell 11 _ rfl
    have kb11 := TB.out.cell 11 _ rfl
    go_wp2_with fail
    refine (eqStringS_same _ g11 j11 a11 e11 c11 d11 exc (HP.out.up N.out).exc (HQ.out.up N.out).exc l5).mono ?_
    rintro e V11 ⟨rfl, m⟩
    have N' := hide (nxt N.out m)
    have TA' := hide (TA.out.up m)
    have TB' := hide (TB.out.up m)
    clear m N TA TB
    have N := N'
    have TA := TA'
    have TB := TB'
    clear N' TA' TB'
    clear ka11 kb11
    have ka12 := TA.out.cell 12 _ rfl
    have kb12 := TB.out.cell 12 _ rfl
    go_wp2_with fail
    refine (eqByteS_same _ g12 j12 a12 e12 c12 d12 sig (HP.out.up N.out).sig (HQ.out.up N.out).sig l6).mono ?_
    rintro e V12 ⟨rfl, m⟩
    have N' := hide (nxt N.out m)
    have TA' := hide (TA.out.up m)
    have TB' := hide (TB.out.up m)
    clear m N TA TB
    have N := N'
    have TA := TA'
    have TB := TB'
    clear N' TA' TB'
    clear ka12 kb12
    go_wp2
    go_ret
    exact ⟨rfl, N.out⟩
theorem iL : (Try.prog.info? 56).map (·.size) = some 13 := by kernel_rfl
theorem rowL : ∃ d, Try.prog.underlying 56 = some d ∧ d.isRow = true := ⟨_, Try.underlying56, rfl⟩
theorem rangeU {w w' : World} {b : Nat} {cs : List Value} (h : w.rangeAt b 0 cs) (n : Below w.heap.size w w') : w'.rangeAt b 0 cs := fun j v hj => (n.cell (block_lt_of_cell (h j v hj))).trans (h j v hj)
theorem crt_one (q : CP) (C : Crt) : (crt q C).all (·.oneCell') = true := by
  refine all_oneCell_toArray (cs := [.slice q.a0 C.ser.length q.c0, .string ⟨⟨C.iss⟩⟩, .string ⟨⟨C.sub⟩⟩, .int .i64 C.frm, .int .i64 C.unt, .slice q.a5 C.key.length q.c5, .slice q.a6 C.hos.length q.c6, .bool C.aut, .int .i64 C.lim, .int .i64 C.use, .slice q.a10 C.prm.length q.c10, .slice q.a11 C.exc.length q.c11, .slice q.a12 C.sig.length q.c12]) fun v hv => ?_
  simp only [List.mem_cons, List.not_mem_nil, or_false] at hv
  rcases hv with rfl | rfl | rfl | rfl | rfl | rfl | rfl | rfl | rfl | rfl | rfl | rfl | rfl
  all_goals rfl
/-- A certificate that may be read. -/
def FC (C : Crt) : Fact := ⟨fun v w => ∃ q, v = .agg (crt q C) ∧ HasC w q C, fun n h => by
  obtain ⟨q, e, h⟩ := h
  exact ⟨q, e, h.up n⟩⟩
section
variable {ops : Array Oper} {Q : Exit → Act → World → Prop} {md : Region.Mode} {F : Nat → Fact} {a0 : Act} {w0 : World} {i : Nat} {o : Oper} {ts : Array TypeId}
theorem step_lC (ty : TypeId) (hu : ∃ d, Try.prog.underlying ty = some d ∧ d.isRow = true) (hs : (Try.prog.info? ty).map (·.size) = some 13) (hi : ops[i]? = some o) (p : Nat) (hop : o.op = .load ty (.tmp p)) (hp : apart ops p = true) (b : Nat) (h0 : a0.tmps.getD p undef = .pointer (some ⟨b, 0, none⟩)) {q : CP} {C : Crt} (T : w0.rangeAt b 0 (crt q C).toList) (hF : F i = Fact.eq (.agg (crt q C))) : StepOk Try.prog md ops Q F a0 w0 i := by
  obtain ⟨d, hu, hr⟩ := hu
  refine step_load hi _ _ hop _ 13 hu hr hs fun a w hb hw _ => ?_
  exact ⟨b, 0, (crt q C).toList, (based_at hb p hp).trans h0, rangeU T hw, rfl, by rw [hF]; exact rfl⟩
theorem step_toC (hi : ops[i]? = some o) (p j : Nat) {q : CP} {C : Crt} (hop : o.op = .call { callee := .value (.func 45), args := #[.tmp p], argTypes := ts })
    (hj : waits md ops i j p = true) (hC : HasC w0 q C) (l1 : C.ser.length ≤ 1048576) (l2 : C.key.length ≤ 1048576) (l3 : C.hos.length ≤ 1048576) (l4 : C.prm.length ≤ 1048576) (l5 : C.exc.length ≤ 1048576) (l6 : C.sig.length ≤ 1048576) (hFj : F j = Fact.eq (.agg (crt q C))) (hFi : F i = FC C) : StepOk Try.prog md ops Q F a0 w0 i := by
  refine step_callv hi _ _ ts hop (by kernel_rfl) fun A w _ hw hF => ?_
  have ea := hF j p hj
  rw [hFj] at ea
  show Calls Try.prog 45 #[A.tmps.getD p undef] w _
  rw [show A.tmps.getD p undef = _ from ea]
  refine (toCert_any w q C (hC.up hw) l1 l2 l3 l4 l5 l6).mono ?_
  rintro r w' ⟨⟨z, rfl, hz⟩, hn⟩
  rw [hFi]
  exact ⟨_, rfl, hn, z, rfl, hz.has⟩
theorem step_eqC (hi : ops[i]? = some o) (p q j k : Nat) {z : CP} {C : Crt} (hop : o.op = .call { callee := .value (.func 47), args := #[.tmp p, .tmp q], argTypes := ts })
    (hj : waits md ops i j p = true) (hk : waits md ops i k q = true) (hC : HasC w0 z C) (l1 : C.ser.length ≤ 1048576) (l2 : C.key.length ≤ 1048576) (l3 : C.hos.length ≤ 1048576) (l4 : C.prm.length ≤ 1048576) (l5 : C.exc.length ≤ 1048576) (l6 : C.sig.length ≤ 1048576) (hFj : F j = Fact.eq (.agg (crt z C))) (hFk : F k = FC C) (hFi : F i = Fact.eq (.bool true)) : StepOk Try.prog md ops Q F a0 w0 i := by
  refine step_callv hi _ _ ts hop (by kernel_rfl) fun A w _ hw hF => ?_
  have ea := hF j p hj
  rw [hFj] at ea
  have eb := hF k q hk
  rw [hFk] at eb
  obtain ⟨y, eb, hy⟩ := eb
  show Calls Try.prog 47 #[A.tmps.getD p undef, A.tmps.getD q undef] w _
  rw [show A.tmps.getD p undef = _ from ea, show A.tmps.getD q undef = _ from eb]
  refine (eqCert_same w z y C (hC.up hw) hy l1 l2 l3 l4 l5 l6).mono ?_
  rintro r w' ⟨rfl, hn⟩
  rw [hFi]
  exact ⟨_, rfl, hn, rfl⟩
theorem step_notT {P : Program} (hi : ops[i]? = some o) (p j : Nat) {b : Bool} {t : TypeId} (hop : o.op = .unOp .not t (.tmp p)) (hj : waits md ops i j p = true) (hFj : F j = Fact.eq (.bool b)) (hFi : F i = Fact.eq (.bool (!b))) : StepOk P md ops Q F a0 w0 i := by
  refine step_pure hi fun a w _ _ hf => ⟨.bool (!b), ?_, by rw [hFi]; exact rfl⟩
  have e := hf j p hj
  rw [hFj] at e
  have e' : a.eval (.tmp p) = .bool b := e
  simp only [execOp, hop, e']
  rfl
end
theorem leftC_bound {C : Crt} (h : ¬ leftC 1048576 C < 0) : C.ser.length ≤ 1048576 ∧ C.key.length ≤ 1048576 ∧ C.hos.length ≤ 1048576 ∧ C.prm.length ≤ 1048576 ∧ C.exc.length ≤ 1048576 ∧ C.sig.length ≤ 1048576 := by
  unfold leftC at h
  split at h
  · exact absurd (by decide) h
  · rename_i k
    unfold sizC at k
    omega
theorem rd_of_rowN {w : World} {a : Option Addr} {len cap : Nat} {zs : List Int}
    (h : (a = none ∧ len = 0 ∧ cap = 0 ∧ zs = []) ∨ ∃ x, a = some x ∧ len ≤ cap ∧ cap ≤ maxLen ∧ zs.length = cap ∧ (∀ i, i < zs.length → w.cell? (x.add i) = some (.int .u8 (zs.getD i 0))) ∧ ∀ n ∈ zs, (Lit.int .u8 n).wf = true) :
    ∃ (g : Nat) (xs : List Int), xs.length = len ∧ Rd w g a .u8 xs ∧ Byt xs ∧ xs.length ≤ 9223372036854775807 := by
  obtain ⟨g, xs, e, r, b⟩ := rd_of_row h
  refine ⟨g, xs, e, r, b, ?_⟩
  rw [e]
  rcases h with ⟨_, rfl, _, _⟩ | ⟨x, _, hl, hm, _⟩
  · omega
  · unfold maxLen at hm
    omega
set_option maxRecDepth 100000 in
set_option maxHeartbeats 8000000 in
theorem certFault_core (w : World) (p : CP) (C : Crt) (hC : HasC w p C) (ok : OkC C) :
    Calls Try.prog 10 #[.agg (crt p C)] w fun e w' => e = .returned (.bool true) ∧ Below w.heap.size w w' := by
  have n1 : Below w.heap.size w (w.alloc (.cells (crt p C) 56)) := (Below.refl _ _).alloc (Nat.le_refl _) _
  have T0 := Thr.new w (crt p C) 56
  have SZ := hide (szCert_any (w.alloc (.cells (crt p C) 56)) p C (hC.up n1) ok)
  have HC := hide (fun W (h : Below w.heap.size w W) => hC.up h)
  have N1 := hide n1
  have TT := hide T0
  clear n1 T0 hC
  by_cases hl : leftC 1048576 C < 0
  · have t1 : decide (leftC 1048576 C < 0) = true := decide_eq_true hl
    clear hl
    generalize leftC 1048576 C = L at *
    clear HC ok TT
    obtain ⟨ser, iss, sub, frm, unt, key, hos, aut, lim, use, prm, exc, sig⟩ := C
    obtain ⟨a0, c0, g0, a5, c5, g5, a6, c6, g6, a10, c10, g10, a11, c11, g11, a12, c12, g12⟩ := p
    simp only [crt] at SZ N1 ⊢
    go_enter Try.func10, Try.ntmps10
    go_wp2_with fail
    refine SZ.out.mono ?_
    rintro e w2 ⟨rfl, n2⟩
    have n3 := hide (nxt N1.out n2)
    clear n2
    go_wp2
    go_ret
    exact ⟨rfl, n3.out⟩
  · have t1 : decide (leftC 1048576 C < 0) = false := decide_eq_false hl
    obtain ⟨l1, l2, l3, l4, l5, l6⟩ := leftC_bound hl
    clear hl
    generalize leftC 1048576 C = L at *
    have TO := hide (fun W (h : Below w.heap.size w W) => toCert_any W p C (HC.out W h) l1 l2 l3 l4 l5 l6)
    have SP := hide (fun W q (h : HasC W q C) => specCertFault_any W q C h ok)
    have IM := hide (fun W q (h : HasC W q C) => implCertFault_any W q C h ok)
    generalize cerF C = z at *
    have zz : (z == z) = true := by simp
    go_enter Try.func10, Try.ntmps10
    obtain ⟨dL, hdL, hrL⟩ := rowL
    obtain ⟨dC, hdC, hrC⟩ := rowC
    go_upto_region 2 with fail
    generalize w.alloc (.cells (crt p C) 56) = W1 at *
    have RG := TT.out.range (cs := (crt p C).toList)
    clear TT
    go_wp2_with (first | (refine wpList_load_mid rfl 56 (.tmp 1) rfl w.heap.size 0 rfl (crt p C).toList dL RG hdL hrL iL ?_) | fail)
    refine SZ.out.mono ?_
    rintro e w2 ⟨rfl, n2⟩
    have N2 := hide (nxt N1.out n2)
    have RG2 := rangeU RG n2
    clear n2 RG SZ N1
    go_wp2_with (first | (refine wpList_load_mid rfl 56 (.tmp 1) rfl w.heap.size 0 rfl (crt p C).toList dL RG2 hdL hrL iL ?_) | fail)
    refine (TO.out w2 N2.out).mono ?_
    rintro e w3 ⟨⟨q, rfl, nc⟩, n3⟩
    have N3 := hide (nxt N2.out n3)
    have RG3 := rangeU RG2 n3
    clear n3 RG2 N2
    go_wp2_with fail
    refine (SP.out w3 q nc.has).mono ?_
    rintro e w4 ⟨rfl, n4⟩
    have N4 := hide (nxt N3.out n4)
    have RG4 := rangeU RG3 n4
    clear n4 RG3 N3 nc
    go_wp2_with (first | (refine wpList_load_mid rfl 56 (.tmp 1) rfl w.heap.size 0 rfl (crt p C).toList dL RG4 hdL hrL iL ?_) | fail)
    refine (TO.out w4 N4.out).mono ?_
    rintro e w5 ⟨⟨q', rfl, nc⟩, n5⟩
    have N5 := hide (nxt N4.out n5)
    have RG5 := rangeU RG4 n5
    clear n5 RG4 N4
    have a5 : Below w5.heap.size w5 (w5.alloc (.cells #[.slice none 0 0, .string ⟨#[]⟩, .string ⟨#[]⟩, .int .i64 0, .int .i64 0, .slice none 0 0, .slice none 0 0, .bool false, .int .i64 0, .int .i64 0, .slice none 0 0, .slice none 0 0, .slice none 0 0] 59)) := (Below.refl _ _).alloc (Nat.le_refl _) _
    have TH := (Thr.new w5 #[.slice none 0 0, .string ⟨#[]⟩, .string ⟨#[]⟩, .int .i64 0, .int .i64 0, .slice none 0 0, .slice none 0 0, .bool false, .int .i64 0, .int .i64 0, .slice none 0 0, .slice none 0 0, .slice none 0 0] 59).there (crt q' C).size rfl
    have RX := World.rangeAt_setCells_same (w5.alloc (.cells #[.slice none 0 0, .string ⟨#[]⟩, .string ⟨#[]⟩, .int .i64 0, .int .i64 0, .slice none 0 0, .slice none 0 0, .bool false, .int .i64 0, .int .i64 0, .slice none 0 0, .slice none 0 0, .slice none 0 0] 59)) w5.heap.size 0 (crt q' C).toList TH
    have OX := only_setCellsC (w5.alloc (.cells #[.slice none 0 0, .string ⟨#[]⟩, .string ⟨#[]⟩, .int .i64 0, .int .i64 0, .slice none 0 0, .slice none 0 0, .bool false, .int .i64 0, .int .i64 0, .slice none 0 0, .slice none 0 0, .slice none 0 0] 59)) w5.heap.size (crt q' C).toList 0
    have b5 : Below w5.heap.size w5 ((w5.alloc (.cells #[.slice none 0 0, .string ⟨#[]⟩, .string ⟨#[]⟩, .int .i64 0, .int .i64 0, .slice none 0 0, .slice none 0 0, .bool false, .int .i64 0, .int .i64 0, .slice none 0 0, .slice none 0 0, .slice none 0 0] 59)).setCells w5.heap.size 0 (crt q' C).toList) := a5.trans (OX.below (Nat.le_refl _))
    have N6 := hide (nxt N5.out b5)
    have RG6 := rangeU RG5 b5
    have HQ := hide (nc.up b5).has
    clear a5 OX b5 RG5 N5 nc
    have ON := crt_one q' C
    go_upto_region 7 with (first | (refine wpList_store_mid rfl 59 (.tmp 5) (.tmp 16) rfl w5.heap.size 0 (crt q' C) rfl rfl TH iC ON ?_) | fail)
    generalize (w5.alloc (.cells #[.slice none 0 0, .string ⟨#[]⟩, .string ⟨#[]⟩, .int .i64 0, .int .i64 0, .slice none 0 0, .slice none 0 0, .bool false, .int .i64 0, .int .i64 0, .slice none 0 0, .slice none 0 0, .slice none 0 0] 59)).setCells w5.heap.size 0 (crt q' C).toList = w6 at *
    clear TH ON
    generalize w5.heap.size = b5 at *
    clear w5
    go_wp2_with (first | (refine wpList_load_mid rfl 59 (.tmp 5) rfl b5 0 rfl (crt q' C).toList dC RX hdC hrC iC ?_) | fail)
    refine (IM.out w6 q' HQ.out).mono ?_
    rintro e w7 ⟨rfl, n7⟩
    have N7 := hide (nxt N6.out n7)
    have RG7 := hide (rangeU RG6 n7)
    have RX7 := hide (rangeU RX n7)
    have HQ7 := hide (HQ.out.up n7)
    clear n7 RG6 RX HQ N6
    go_upto_region 10 with fail
    refine region_end 5 (fun i => [Fact.eq (.agg (crt q' C)), Fact.eq (.agg (crt p C)), FC C, Fact.eq (.bool true), Fact.eq (.bool (!true))].getD i Fact.no) (by kernel_rfl) (by kernel_rfl) rfl ?_ ?_
    · intro i hi
      obtain rfl | rfl | rfl | rfl | rfl : i = 0 ∨ i = 1 ∨ i = 2 ∨ i = 3 ∨ i = 4 := by omega
      · exact step_lC _ rowC iC rfl 5 rfl (by kernel_rfl) b5 rfl RX7.out rfl
      · exact step_lC _ rowL iL rfl 1 rfl (by kernel_rfl) w.heap.size rfl RG7.out rfl
      · exact step_toC rfl 23 1 rfl (by kernel_rfl) (HC.out w7 N7.out) l1 l2 l3 l4 l5 l6 rfl rfl
      · exact step_eqC rfl 22 24 0 2 rfl (by kernel_rfl) (by kernel_rfl) HQ7.out l1 l2 l3 l4 l5 l6 rfl rfl rfl
      · exact step_notT rfl 25 3 rfl (by kernel_rfl) rfl rfl
    intro A W hb hw hF
    have e2 := hF 4 26 (by kernel_rfl)
    obtain ⟨vs, hvs⟩ : ∃ vs : Nat → Value, ∀ d, A.tmps.getD d undef = vs d := ⟨_, fun _ => rfl⟩
    rw [hvs] at e2
    rw [puts_of (md := .any) (k := 5) (by kernel_rfl) rfl hb vs hvs]
    clear hb hF hvs
    have e3 : vs 26 = .bool false := e2
    clear e2
    simp only [puts, e3, Act.put, List.setIfInBounds_toArray, List.set_cons_succ, List.set_cons_zero]
    clear e3
    have N8 := hide (nxt N7.out hw)
    clear hw N7 RG7 RX7 HQ7
    go_wp2
    go_ret
    exact ⟨rfl, N8.out⟩
theorem certFault_law (w : World) (g0 : Nat) (a0 : Option Addr) (c0 : Nat) (ser : List Int) (q0 : Rd w g0 a0 .u8 ser) (_ : Byt ser) (k0 : ser.length ≤ 9223372036854775807) (iss : ByteArray) (k1 : iss.size ≤ 9223372036854775807) (sub : ByteArray) (k2 : sub.size ≤ 9223372036854775807) (frm : Int) (_ : (Lit.int .i64 frm).wf = true) (unt : Int) (_ : (Lit.int .i64 unt).wf = true)
    (g5 : Nat) (a5 : Option Addr) (c5 : Nat) (key : List Int) (q5 : Rd w g5 a5 .u8 key) (_ : Byt key) (k5 : key.length ≤ 9223372036854775807) (g6 : Nat) (a6 : Option Addr) (c6 : Nat) (hos : List (List UInt8)) (q6 : RdT w g6 a6 hos) (k6 : hos.length ≤ 9223372036854775807) (m6 : ∀ l ∈ hos, l.length ≤ 9223372036854775807) (aut : Bool) (lim : Int) (_ : (Lit.int .i64 lim).wf = true) (use : Int) (_ : (Lit.int .i64 use).wf = true)
    (g10 : Nat) (a10 : Option Addr) (c10 : Nat) (prm : List (List UInt8)) (q10 : RdT w g10 a10 prm) (k10 : prm.length ≤ 9223372036854775807) (m10 : ∀ l ∈ prm, l.length ≤ 9223372036854775807) (g11 : Nat) (a11 : Option Addr) (c11 : Nat) (exc : List (List UInt8)) (q11 : RdT w g11 a11 exc) (k11 : exc.length ≤ 9223372036854775807) (m11 : ∀ l ∈ exc, l.length ≤ 9223372036854775807) (g12 : Nat) (a12 : Option Addr) (c12 : Nat) (sig : List Int) (q12 : Rd w g12 a12 .u8 sig) (_ : Byt sig) (k12 : sig.length ≤ 9223372036854775807) :
    Calls Try.prog 10 #[.agg #[.slice a0 ser.length c0, .string iss, .string sub, .int .i64 frm, .int .i64 unt, .slice a5 key.length c5, .slice a6 hos.length c6, .bool aut, .int .i64 lim, .int .i64 use, .slice a10 prm.length c10, .slice a11 exc.length c11, .slice a12 sig.length c12]] w fun e w' => e = .returned (.bool true) ∧ Below w.heap.size w w' := by
  obtain ⟨⟨i⟩⟩ := iss
  obtain ⟨⟨s⟩⟩ := sub
  exact certFault_core w ⟨a0, c0, g0, a5, c5, g5, a6, c6, g6, a10, c10, g10, a11, c11, g11, a12, c12, g12⟩ ⟨ser, i, s, frm, unt, key, hos, aut, lim, use, prm, exc, sig⟩ ⟨q0, q5, q6, q10, q11, q12⟩ ⟨k0, k1, k2, k5, k6, k10, k11, k12, m6, m10, m11⟩
end Go.Proofs.Ytheggghidhjplaa
