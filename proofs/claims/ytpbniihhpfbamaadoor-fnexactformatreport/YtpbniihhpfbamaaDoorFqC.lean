
/-
  The program's text of a world's report.
-/
import Derived.Test.YtpbniihhpfbamaaDoorFqL
import Derived.Test.YtpbniihhpfbamaaDoorFqI
namespace Go.Proofs.YtpbniihhpfbamaaDoor
set_option maxRecDepth 100000
open Go Go.RowKit

theorem cnT_len {n : Nat} (h : n < 9223372036854775808) : (cnT n).length ≤ 100 := one_len (by decide) (by unfold I64; omega)
theorem ch_len {n : Nat} {c : CD} (hn : n < 9223372036854775808) (L : LnC c) : (ltT (chT n c)).length ≤ 22400000 := by
  have h1 := cnT_len hn
  have h2 := enT_len (wo := clW) L.cl.k L.cl.i L.cl.hp (by decide)
  have h3 := enT_len (wo := svW) L.sv.k L.sv.i L.sv.hp (by decide)
  have h4 := waT_len L.ts L.tc
  have e : (ltT (chT n c)).length = (cnT n).length + 1 + ((enT clW c.cl).length + 1) + ((enT svW c.sv).length + 1) + ((waT c.ts c.tc).length + 1) := by
    simp [ltT, chT]
    omega
  rw [e]
  omega
theorem cs_len {d : WD} (L : LnWd d) : ∀ k, k ≤ d.cs.length → (ltT (csT d.cs cd0 k)).length ≤ k * 22400000
  | 0, _ => by simp [csT, ltT]
  | k + 1, hk => by
    have h1 := cs_len L k (by omega)
    have h2 := ch_len (n := k) (by have := L.cs; omega) (L.cz k (by omega))
    rw [csT_succ, ltT_app, List.length_append]
    omega
theorem ms_len : ∀ (ms : List Mrk), (∀ m ∈ ms, m.id.length ≤ 1048576 ∧ I64 m.un) → (ltT (ms.map mkT)).length ≤ ms.length * 2200001
  | [], _ => by simp [ltT]
  | m :: ms, h => by
    have h1 := ms_len ms (fun x hx => h x (List.mem_cons_of_mem _ hx))
    have h2 := mkT_len (h m (List.mem_cons_self ..)).1 (h m (List.mem_cons_self ..)).2
    have e : (ltT ((m :: ms).map mkT)).length = (mkT m).length + 1 + (ltT (ms.map mkT)).length := by simp [ltT]; omega
    rw [e, List.length_cons]
    omega
theorem lnM_mem {ms : List Mrk} (h : LnM ms) : ∀ m ∈ ms, m.id.length ≤ 1048576 ∧ I64 m.un := fun m hm => by
  obtain ⟨i, hi, rfl⟩ := List.mem_iff_getElem.1 hm
  have := h i hi
  rw [List.getD_eq_getElem?_getD, List.getElem?_eq_getElem hi] at this
  exact ⟨this.1, this.2.2⟩
theorem lf_len {d : WD} (L : LnWd d) : (lfT d.tk d.pk d.rn d.gt d.li d.ea d.ho d.sp).length ≤ 15000000 := by
  unfold lfT
  split
  · simp [lnL_cons]
  · have h := heT_len (byL d.ho)
    rw [byL_len] at h
    have := L.ho
    exact svT_len L.tk L.pk L.rn L.gt L.li L.ea (by omega) L.sp
theorem rp_len {d : WD} (L : LnWd d) : (ltT (rpL d)).length ≤ 30000000000000 := by
  have h1 := cs_len L d.cs.length (Nat.le_refl _)
  have h2 := lf_len L
  have h3 : (wdT d.wd).length ≤ 100 := one_len (by decide) L.wd
  have h4 := ms_len d.ms (lnM_mem L.ms)
  have h5 := L.cs
  have h6 := L.mn
  unfold rpL
  rw [ltT_app, ltT_app, ltT_app, ltT_one, ltT_one]
  simp only [List.length_append, List.length_cons, List.length_nil]
  omega
/-- The text of a report. -/
def rpT (d : WD) : List UInt8 := if d.fa = 0 then ltT (rpL d) else faT d.fa ++ [10]
set_option maxRecDepth 100000 in
set_option maxHeartbeats 4000000 in
theorem implFormat_any (w : World) (hW : HasW w) (p : WA) (d : WD) (h : HasR w p d) (L : LnWd d) :
    Calls Tryd.prog 7 #[.agg (wrV p d)] w fun e w' => e = .returned (tx (rpT d)) ∧ Below w.heap.size w w' := by
  have n1 : Below w.heap.size w (w.alloc (.cells (wrV p d) 39)) := (Below.refl _ _).alloc (Nat.le_refl _) _
  have T1 : RwC (w.alloc (.cells (wrV p d) 39)) w.heap.size (wrL p d) 39 := RwC.new w (wrL p d) 39
  have c0 : (w.alloc (.cells (wrV p d) 39)).cell? ⟨w.heap.size, 0, none⟩ = some (.int .i64 d.fa) := T1.cell 0
  have RG : (w.alloc (.cells (wrV p d) 39)).rangeAt w.heap.size 0 (wrV p d).toList := T1.rangeG
  have HW := hide (hW.up n1)
  have N1 := hide n1
  have RL := hide (reportLines_any _ (hW.up n1) p d (h.up n1) L)
  obtain ⟨dW, hdW, hrW⟩ := rowWr
  have LN : (wrV p d).toList.length = 12 := rfl
  clear n1 T1 h hW
  by_cases h0 : d.fa = 0
  · have t0 : (d.fa != 0) = false := by simp [h0]
    have E : Hid (rpT d = ltT (rpL d)) := if_pos h0
    clear h0
    go_enter Tryd.func7, Tryd.ntmps7
    go_upto_region 1 with fail
    generalize w.alloc (.cells (wrV p d) 39) = w1 at *
    generalize wrV p d = xa at *
    go_wp2_with (first | (refine wpList_load_mid rfl 39 (.tmp 1) rfl w.heap.size 0 rfl xa.toList dW RG hdW hrW (iWr.trans (congrArg some LN.symm)) ?_) | fail)
    refine RL.out.mono ?_
    rintro e w2 ⟨⟨f, rfl, F⟩, n2⟩
    have TO := hide (textOf_any w2 f _ F (Nat.le_trans (rp_len L) (by decide)))
    have N2 := hide (nxt N1.out n2)
    clear F n2 RL N1 c0 RG
    go_wp2_with fail
    refine TO.out.mono ?_
    rintro e w3 ⟨rfl, n3⟩
    have N3 := hide (nxt N2.out n3)
    clear n3 TO N2
    unfold tx
    go_wp2
    go_ret
    exact ⟨by rw [E.out]; rfl, N3.out⟩
  · have t0 : (d.fa != 0) = true := by simp [h0]
    have E : Hid (rpT d = faT d.fa ++ [10]) := if_neg h0
    clear h0 RL RG
    go_enter Tryd.func7, Tryd.ntmps7
    go_upto_region 1 with fail
    generalize w.alloc (.cells (wrV p d) 39) = w1 at *
    have NW := hide (numberWord_any w1 HW.out d.fa L.fa)
    go_wp2_with fail
    refine NW.out.mono ?_
    rintro e w2 ⟨rfl, n2⟩
    have m3 : Below w2.heap.size w2 (w2.alloc (.cells #[tx [102, 97, 117, 108, 116], tx (itL d.fa)] 9)) := (Below.refl _ _).alloc (Nat.le_refl _) _
    have LO : Hid (Calls Tryd.prog 23 #[.slice (some ⟨w2.heap.size, 0, none⟩) 2 2] (w2.alloc (.cells #[tx [102, 97, 117, 108, 116], tx (itL d.fa)] 9)) _) := lineOf_any _ w2.heap.size [[102, 97, 117, 108, 116], itL d.fa] 2 rfl (by decide) (heap_alloc_new w2 _) (Nat.le_trans (one_len (by decide) L.fa) (by decide)) (by simp)
    have N3 := hide (nxt (nxt N1.out n2) m3)
    have FL : Hid ((faT d.fa).length ≤ 100) := one_len (by decide) L.fa
    clear n2 m3 NW N1 c0
    unfold tx at *
    go_wp2_with fail
    refine LO.out.mono ?_
    rintro e w4 ⟨rfl, n4⟩
    have SI := hide (single_any w4 0 (faT d.fa))
    have N4 := hide (nxt N3.out n4)
    clear n4 LO N3
    unfold tx at SI
    go_wp2_with fail
    refine SI.out.mono ?_
    rintro e w5 ⟨⟨f, rfl, F⟩, n5⟩
    have TO := hide (textOf_any w5 f _ F.toV (by rw [ltT_one, List.length_append]; have := FL.out; simp; omega))
    have N5 := hide (nxt N4.out n5)
    clear F n5 SI N4 FL
    go_wp2_with fail
    refine TO.out.mono ?_
    rintro e w6 ⟨rfl, n6⟩
    have N6 := hide (nxt N5.out n6)
    clear n6 TO N5
    rw [ltT_one]
    unfold tx
    go_wp2
    go_ret
    exact ⟨by rw [E.out]; rfl, N6.out⟩
end Go.Proofs.YtpbniihhpfbamaaDoor
