import Derived.Test.YtmfajpplagbfcaaGreatDoorHB14
import Derived.Test.YtmfajpplagbfcaaGreatDoorHBxRg3
namespace Go.Proofs.YtmfajpplagbfcaaGreatDoor
set_option maxRecDepth 100000
open Go Go.RowKit
section
variable {P : Program} {ops : Array Oper} {Q : Exit → Act → World → Prop} {a0 : Act}
theorem region_callA {id : Nat} {w : World} {draw : Bool} (k : Nat) (o o2 : Oper) (F : Nat → Fact) (hm : P.follows .mixedOrders = true) (hT : textTail .any draw ops a0.tmps.size k = true) (hk : ops.toList.drop k = [o, o2]) (ho : ops[k]? = some o) (ho2 : ops[k + 1]? = some o2) (dd d2 : Nat) (hdd : o.dst = some dd) (hd2 : o2.dst = some d2) (hop2 : o2.op = .assign (.tmp dd)) (s1 : dd < a0.tmps.size) (s2 : d2 < a0.tmps.size)
    (steps : ∀ i, i < k → StepOk P .any ops Q F a0 w i)
    (n : FuncId) (args : Array Operand) (ts : Array TypeId) (hop : o.op = .call { callee := .value (.func n), args := args, argTypes := ts }) (he : enters P n = true)
    (fin : ∀ a w', Based ops a0 a → Below w.heap.size w w' → (∀ i d, decide (i < k) = true → writes ops i d = true → (F i).p (a.tmps.getD d undef) w') →
      Calls P n (args.toList.map a.eval).toArray w' fun e w'' => ∃ v, e = .returned v ∧ ∀ vs : Nat → Value, vs d2 = v → Q .normal (puts vs a0 ops.toList) w'') : (Code.region id ops draw).wp P Q a0 w := by
  refine region_tail k F hm hT steps [] (by simp) (by simp) fun a w' hb hw hf _ => ?_
  rw [hk]
  show o.wp P a w' (fun a' w'' => o2.wp P a' w'' (fun a'' w3 => Q .normal a'' w3) Q) Q
  have hr : (execOp a.eval o).run P w' = .ok (.enter n (args.map a.eval)) w' := by
    have h0 : (Deferred.ofValue (Value.func (Fn.func n) #[] #[]) (args.map a.eval)).run P w' = .ok { target := .fn (.func n) #[], args := args.map a.eval } w' := by simp [Deferred.ofValue]
    simp [execOp, hop, resolve, invoke, Act.eval, h0, run_enter he]
  have e : args.map a.eval = (args.toList.map a.eval).toArray := by cases args; simp
  unfold Oper.wp
  rw [hr, e, Oper.upon_enter]
  refine (fin a w' hb hw hf).mono ?_
  rintro e w'' ⟨v, rfl, hv⟩
  have hb1 := Based.put hb ho v
  have ea : (a.put o.dst v).eval (.tmp dd) = v := by
    rw [hdd]
    exact put_at (by rw [hb.2.1]; exact s1)
  have hr2 : (execOp (a.put o.dst v).eval o2).run P w'' = .ok (.value v) w'' := by
    simp [execOp, hop2, ea]
  have hb2 := Based.put hb1 ho2 v
  have e2 : ((a.put o.dst v).put o2.dst v).tmps.getD d2 undef = v := by
    rw [hd2]
    exact put_at (by rw [hb1.2.1]; exact s2)
  show o2.upon P (a.put o.dst v) (fun a'' w3 => Q .normal a'' w3) Q ((execOp (a.put o.dst v).eval o2).run P w'')
  rw [hr2, Oper.upon_value]
  show Q .normal ((a.put o.dst v).put o2.dst v) w''
  obtain ⟨vs, hvs⟩ : ∃ vs : Nat → Value, ∀ d, ((a.put o.dst v).put o2.dst v).tmps.getD d undef = vs d := ⟨_, fun _ => rfl⟩
  rw [puts_tail hT rfl hb2 vs hvs]
  exact hv vs (by rw [← hvs, e2])
end
def BodP (w : World) (xs : List Int) (e : Ending) (w' : World) : Prop := (∃ x, e = .returned x ∧ RowB w' w.heap.size x xs) ∧ Below w.heap.size w w'
structure LstR (w : World) (l : LstZ) : Prop where
  r : Rd w l.g l.a .u8 l.xs
  z : l.a = none → l.c = 0
  m : l.xs.length ≤ 1048576
  g : l.xs.length = 0 ∨ l.g < w.heap.size
theorem LstR.up {w w' : World} {l : LstZ} (h : LstR w l) (n : Below w.heap.size w w') : LstR w' l := ⟨h.r.up n, h.z, h.m, h.g.imp id fun x => Nat.lt_of_lt_of_le x n.size⟩
theorem LstR.nil {w : World} {l : LstZ} (h : LstR w l) (ha : l.a = none) : l.xs = [] := by
  by_cases h0 : 0 < l.xs.length
  · obtain ⟨off, e, _⟩ := h.r h0
    rw [ha] at e
    simp at e
  · exact List.eq_nil_of_length_eq_zero (by omega)
theorem endBody_any (w : World) (v : Value) : Calls Tryz.prog 154 #[v] w (BodP w []) := by
  go_enter Tryz.func154, Tryz.ntmps154
  go_wp2
  go_ret
  exact ⟨⟨_, rfl, RowB.nil _ _⟩, Below.refl _ _⟩
theorem updateBody_any (w : World) (q : Nat) (n : Int) (h0 : w.cell? ⟨q, 0, none⟩ = some (.int .i64 n)) : Calls Tryz.prog 178 #[.pointer (some ⟨q, 0, none⟩)] w (BodP w (bigL n 1)) := by
  have C := hide (appendNumber_any w w.heap.size (.slice none 0 0) [] (RowB.nil w _) (Nat.le_refl _) n 1 (by decide) (by simp))
  go_enter Tryz.func178, Tryz.ntmps178
  go_wp2_with fail
  refine C.out.mono ?_
  rintro r w1 ⟨v1, rfl, R1, n1⟩
  go_wp2
  go_ret
  exact ⟨⟨_, rfl, R1⟩, n1⟩
set_option maxRecDepth 100000 in
set_option maxHeartbeats 1000000 in
theorem cloneB_any (w : World) (l : LstZ) (h : LstR w l) : Calls Tryz.prog 173 #[.slice l.a l.xs.length l.c] w (BodP w l.xs) := by
  obtain ⟨i0, hi, hz0, hz1, hz2⟩ := info_parts Tryz.info5
  cases ha : l.a with
  | none =>
    rw [h.nil ha, h.z ha]
    have b0 : ∀ W, (binOp BinOp.eql 22 (.slice none 0 0) (.slice none 0 0)).run Tryz.prog W = .ok (.bool true) W := fun W => by kernel_rfl
    go_enter Tryz.func173, Tryz.ntmps173
    go_wp2
    go_ret
    exact ⟨⟨_, rfl, RowB.nil _ _⟩, Below.refl _ _⟩
  | some ad =>
    have n0 : Below w.heap.size w (w.alloc (.cells #[] 5)) := (Below.refl _ _).alloc (Nat.le_refl _) _
    have r := h.r.up n0
    have m := h.m
    rw [ha] at r
    obtain ⟨v1, w1, hap, R1, n1⟩ := append_any (P := Tryz.prog) (w.alloc (.cells #[] 5)) 22 i0 Tryz.underlying22 hi hz0 hz1 hz2 w.heap.size w.heap.size _ _ (RowB.lit0 w) l.g (some ad) l.c l.xs r (by simp) (by simp; omega) (Nat.le_refl _) n0.size
    have N1 := n0.trans n1
    rw [List.nil_append] at R1
    have b0 : ∀ W, (binOp BinOp.eql 22 (.slice (some ad) l.xs.length l.c) (.slice none 0 0)).run Tryz.prog W = .ok (.bool false) W := fun W => by kernel_rfl
    clear n0 n1 r m h
    go_enter Tryz.func173, Tryz.ntmps173
    go_wp2_with (at_builtin; refine Lib.wpList_append_run _ rfl _ _ 22 22 rfl _ _ rfl rfl _ _ hap ?_)
    go_ret
    exact ⟨⟨_, rfl, R1⟩, N1⟩
theorem proofBody_any (w : World) (q : Nat) (l : LstZ) (h : LstR w l) (h0 : w.cell? ⟨q, 0, none⟩ = some (.slice l.a l.xs.length l.c)) : Calls Tryz.prog 169 #[.pointer (some ⟨q, 0, none⟩)] w (BodP w l.xs) := by
  have C := hide (cloneB_any w l h)
  clear h
  go_enter Tryz.func169, Tryz.ntmps169
  go_wp2_with fail
  refine C.out.mono ?_
  rintro r w1 ⟨⟨v1, rfl, R1⟩, n1⟩
  go_wp2
  go_ret
  exact ⟨⟨_, rfl, R1⟩, n1⟩
theorem finishedBody_any (w : World) (q : Nat) (l : LstZ) (h : LstR w l) (h0 : w.cell? ⟨q, 0, none⟩ = some (.slice l.a l.xs.length l.c)) : Calls Tryz.prog 174 #[.pointer (some ⟨q, 0, none⟩)] w (BodP w l.xs) := by
  have C := hide (cloneB_any w l h)
  clear h
  go_enter Tryz.func174, Tryz.ntmps174
  go_wp2_with fail
  refine C.out.mono ?_
  rintro r w1 ⟨⟨v1, rfl, R1⟩, n1⟩
  go_wp2
  go_ret
  exact ⟨⟨_, rfl, R1⟩, n1⟩
end Go.Proofs.YtmfajpplagbfcaaGreatDoor
namespace Go.Proofs.YtmfajpplagbfcaaGreatDoor
set_option maxRecDepth 100000
open Go Go.RowKit
theorem cellq {w w' : World} (n : Below w.heap.size w w') {q i : Nat} {x : Value} (h : w.cell? ⟨q, i, none⟩ = some x) : w'.cell? ⟨q, i, none⟩ = some x :=
  (World.cell?_of_block (a := ⟨q, i, none⟩) (n.block q (block_lt_of_cell h))).trans h
set_option maxRecDepth 100000 in
set_option maxHeartbeats 1000000 in
theorem answerBody_any (w : World) (q : Nat) (v : Int) (l1 l2 : LstZ) (rs : Bool) (h0 : w.cell? ⟨q, 0, none⟩ = some (.int .i64 v)) (h1 : w.cell? ⟨q, 1, none⟩ = some (.slice l1.a l1.xs.length l1.c)) (h2 : w.cell? ⟨q, 2, none⟩ = some (.slice l2.a l2.xs.length l2.c)) (h3 : w.cell? ⟨q, 3, none⟩ = some (.bool rs)) (H1 : LstR w l1) (H2 : LstR w l2) :
    Calls Tryz.prog 147 #[.pointer (some ⟨q, 0, none⟩)] w (BodP w (fpL v l1.xs l2.xs ++ [if rs = true then 1 else 0])) := by
  obtain ⟨i0, hi, hz0, hz1, hz2⟩ := info_parts Tryz.info5
  have C := hide (firstBody_any w q v l1 l2 h0 h1 h2 H1.r H2.r H1.z H2.z H1.m H2.m)
  have lf := fpL_len v l1.xs l2.xs
  have m1 := H1.m
  have m2 := H2.m
  have lt : (fpL v l1.xs l2.xs).length ≤ 4194304 := by omega
  clear h0 h1 h2 H1 H2 lf m1 m2
  generalize fpL v l1.xs l2.xs = fs at *
  cases rs
  · go_enter Tryz.func147, Tryz.ntmps147
    go_wp2_with fail
    refine C.out.mono ?_
    rintro r w1 ⟨⟨v1, rfl, R1⟩, n1⟩
    have n2 : Below w1.heap.size w1 (w1.alloc (.cells #[.int .u8 0] 5)) := (Below.refl _ _).alloc (Nat.le_refl _) _
    obtain ⟨v3, w3, hap3, R3, n3⟩ := append_any (P := Tryz.prog) (w1.alloc (.cells #[.int .u8 0] 5)) 22 i0 Tryz.underlying22 hi hz0 hz1 hz2 w.heap.size w.heap.size _ _ (R1.up n2) _ _ 1 [0] (blk_lit1 w1 .u8 5 0).own0.rd (by simp) (by simp; omega) (Nat.le_refl _) (nxt n1 n2).size
    have N3 := (nxt n1 n2).trans n3
    clear n1 n2 n3 R1 C
    go_wp2_with (at_builtin; refine Lib.wpList_append_run _ rfl _ _ 22 22 rfl _ _ rfl rfl _ _ hap3 ?_)
    go_ret
    exact ⟨⟨_, rfl, R3⟩, N3⟩
  · go_enter Tryz.func147, Tryz.ntmps147
    go_wp2_with fail
    refine C.out.mono ?_
    rintro r w1 ⟨⟨v1, rfl, R1⟩, n1⟩
    have n2 : Below w1.heap.size w1 (w1.alloc (.cells #[.int .u8 1] 5)) := (Below.refl _ _).alloc (Nat.le_refl _) _
    obtain ⟨v3, w3, hap3, R3, n3⟩ := append_any (P := Tryz.prog) (w1.alloc (.cells #[.int .u8 1] 5)) 22 i0 Tryz.underlying22 hi hz0 hz1 hz2 w.heap.size w.heap.size _ _ (R1.up n2) _ _ 1 [1] (blk_lit1 w1 .u8 5 1).own0.rd (by simp) (by simp; omega) (Nat.le_refl _) (nxt n1 n2).size
    have N3 := (nxt n1 n2).trans n3
    clear n1 n2 n3 R1 C
    go_wp2_with (at_builtin; refine Lib.wpList_append_run _ rfl _ _ 22 22 rfl _ _ rfl rfl _ _ hap3 ?_)
    go_ret
    exact ⟨⟨_, rfl, R3⟩, N3⟩
def tkL (ag ea : Int) (r t : List Int) : List Int := bigL ag 4 ++ bigL ea 4 ++ r ++ loL t
set_option maxHeartbeats 1000000 in
theorem ticketBody_any (w : World) (q : Nat) (ag ea : Int) (l1 l2 : LstZ) (h0 : w.cell? ⟨q, 0, none⟩ = some (.int .i64 ag)) (h1 : w.cell? ⟨q, 1, none⟩ = some (.int .i64 ea)) (h2 : w.cell? ⟨q, 2, none⟩ = some (.slice l1.a l1.xs.length l1.c)) (h3 : w.cell? ⟨q, 3, none⟩ = some (.slice l2.a l2.xs.length l2.c)) (H1 : LstR w l1) (H2 : LstR w l2) :
    Calls Tryz.prog 150 #[.pointer (some ⟨q, 0, none⟩)] w (BodP w (tkL ag ea l1.xs l2.xs)) := by
  obtain ⟨i0, hi, hz0, hz1, hz2⟩ := info_parts Tryz.info5
  have C := hide (appendNumber_any w w.heap.size (.slice none 0 0) [] (RowB.nil w _) (Nat.le_refl _) ag 4 (by decide) (by simp))
  go_enter Tryz.func150, Tryz.ntmps150
  go_wp2_with fail
  refine C.out.mono ?_
  rintro r w1 ⟨v1, rfl, R1, n1⟩
  rw [List.nil_append] at R1
  have k1 := cellq n1 h1
  have b4 := bigL_len ag 4
  have C2 := hide (appendNumber_any w1 w.heap.size v1 _ R1 n1.size ea 4 (by decide) (by rw [b4]; decide))
  clear C h0
  go_wp2_with fail
  refine C2.out.mono ?_
  rintro r w2 ⟨v2, rfl, R2, n2⟩
  have N2 := n1.trans n2
  have k2 := cellq N2 h2
  have b5 := bigL_len ea 4
  have m1 := H1.m
  obtain ⟨v3, w3, hap3, R3, n3⟩ := append_any (P := Tryz.prog) w2 22 i0 Tryz.underlying22 hi hz0 hz1 hz2 w.heap.size w.heap.size _ _ R2 l1.g l1.a l1.c l1.xs (H1.up N2).r H1.z (by rw [List.length_append]; omega) (Nat.le_refl _) N2.size
  have N3 := N2.trans n3
  have k3 := cellq N3 h3
  have C4 := hide (appendLong_any w3 w.heap.size v3 _ R3 N3.size l2.g l2.a l2.c l2.xs (H2.up N3).r H2.z H2.g (by rw [List.length_append, List.length_append]; omega) H2.m)
  clear C2 R1 R2 R3 n1 n2 n3 N2 h1 h2 h3 k1 H1 H2 b4 b5 m1
  go_wp2_with (at_builtin; refine Lib.wpList_append_run _ rfl _ _ 22 22 rfl _ _ rfl rfl _ _ hap3 ?_)
  refine C4.out.mono ?_
  rintro r w4 ⟨v4, rfl, R4, n4⟩
  have N4 := N3.trans n4
  clear C4 n4 N3 hap3 k2 k3
  go_wp2
  go_ret
  exact ⟨⟨_, rfl, R4⟩, N4⟩
structure TxsR (w : World) (g : Nat) (a : Option Addr) (ls : List (List UInt8)) : Prop where
  r : RdT w g a ls
  n : ls.length ≤ 8
  z : ∀ l ∈ ls, l.length ≤ 1048576
  g : ls.length = 0 ∨ g < w.heap.size
theorem TxsR.up {w w' : World} {g : Nat} {a : Option Addr} {ls : List (List UInt8)} (h : TxsR w g a ls) (n : Below w.heap.size w w') : TxsR w' g a ls := ⟨h.r.up n, h.n, h.z, h.g.imp id fun x => Nat.lt_of_lt_of_le x n.size⟩
theorem lsL_len (ls : List (List UInt8)) (h : ls.length ≤ 8) (hz : ∀ l ∈ ls, l.length ≤ 1048576) : (lsL ls).length ≤ 8388617 := by
  have := sh_sum ls 1048576 hz ls.length
  rw [List.take_of_length_le (by simp)] at this
  unfold lsL
  rw [List.length_append]
  have : ls.length * (1048576 + 1) ≤ 8 * (1048576 + 1) := Nat.mul_le_mul_right _ h
  simp only [List.length_cons, List.length_nil]
  omega
set_option maxHeartbeats 4000000 in
theorem extrasBody_any (w : World) (q : Nat) (g : Nat) (a : Option Addr) (c : Nat) (ls : List (List UInt8)) (ea : Int) (h0 : w.cell? ⟨q, 0, none⟩ = some (.slice a ls.length c)) (h1 : w.cell? ⟨q, 1, none⟩ = some (.int .i64 ea)) (H : TxsR w g a ls) :
    Calls Tryz.prog 158 #[.pointer (some ⟨q, 0, none⟩)] w (BodP w (lsL ls ++ bigL ea 1)) := by
  have ll := lsL_len ls H.n H.z
  go_enter Tryz.func158, Tryz.ntmps158
  go_upto_region 1 with fail
  refine region_callA 9 _ _ (fun i => [Fact.eq (.pointer (some ⟨q, 0, none⟩)), Fact.eq (.pointer (some ⟨q, 0, none⟩)), Fact.eq (.pointer (some ⟨q, 0, none⟩)), Fact.eq (.slice a ls.length c), RBf w.heap.size (lsL ls), Fact.eq (.pointer (some ⟨q, 0, none⟩)), Fact.eq (.pointer (some ⟨q, 0, none⟩)), Fact.eq (.pointer (some ⟨q, 1, none⟩)), Fact.eq (.int .i64 ea)].getD i Fact.no) (by kernel_rfl) (by kernel_rfl) rfl rfl rfl 12 2 rfl rfl rfl (by show (12 : Nat) < 13; decide) (by show (2 : Nat) < 13; decide) ?_ 20 _ _ rfl (by kernel_rfl) ?_
  · intro i hi
    obtain rfl | rfl | rfl | rfl | rfl | rfl | rfl | rfl | rfl : i = 0 ∨ i = 1 ∨ i = 2 ∨ i = 3 ∨ i = 4 ∨ i = 5 ∨ i = 6 ∨ i = 7 ∨ i = 8 := by omega
    · refine step_pure rfl fun A ww hb hw hf => ?_
      have e0 : A.tmps[0]?.getD undef = .pointer (some ⟨q, 0, none⟩) := gdv (hb.2.2 0 (by kernel_rfl))
      exact ⟨.pointer (some ⟨q, 0, none⟩), by simp [go_sem, e0], rfl⟩
    · refine step_pure rfl fun A ww hb hw hf => ?_
      have e0 : A.tmps[3]?.getD undef = .pointer (some ⟨q, 0, none⟩) := gdv (hf 0 3 (by kernel_rfl))
      exact ⟨.pointer (some ⟨q, 0, none⟩), by simp [go_sem, e0], rfl⟩
    · refine step_pure rfl fun A ww hb hw hf => ?_
      have e0 : A.tmps[4]?.getD undef = .pointer (some ⟨q, 0, none⟩) := gdv (hf 1 4 (by kernel_rfl))
      exact ⟨.pointer (some ⟨q, 0, none⟩), by simp [go_sem, e0], rfl⟩
    · refine step_pure rfl fun A ww hb hw hf => ?_
      have e0 : A.tmps[5]?.getD undef = .pointer (some ⟨q, 0, none⟩) := gdv (hf 2 5 (by kernel_rfl))
      have hc : ww.cell? ⟨q, 0, none⟩ = some (.slice a ls.length c) := cellq hw h0
      exact ⟨.slice a ls.length c, by simp [go_sem, e0, hc], rfl⟩
    · refine step_callv rfl 133 _ _ rfl (by kernel_rfl) fun A ww hb hw hf => ?_
      have e6 : A.tmps.getD 6 undef = .slice a ls.length c := hf 3 6 (by kernel_rfl)
      show Calls Tryz.prog 133 #[.slice none 0 0, A.tmps.getD 6 undef] ww _
      rw [e6]
      refine (appendShorts_any ww ww.heap.size (.slice none 0 0) [] (RowB.nil ww _) (Nat.le_refl _) g a c ls (H.up hw).r (H.up hw).g (by simp) H.n H.z).mono ?_
      rintro r w' ⟨x, rfl, R, n⟩
      exact ⟨x, rfl, n, R.base hw.size⟩
    · refine step_pure rfl fun A ww hb hw hf => ?_
      have e0 : A.tmps[0]?.getD undef = .pointer (some ⟨q, 0, none⟩) := gdv (hb.2.2 0 (by kernel_rfl))
      exact ⟨.pointer (some ⟨q, 0, none⟩), by simp [go_sem, e0], rfl⟩
    · refine step_pure rfl fun A ww hb hw hf => ?_
      have e0 : A.tmps[8]?.getD undef = .pointer (some ⟨q, 0, none⟩) := gdv (hf 5 8 (by kernel_rfl))
      exact ⟨.pointer (some ⟨q, 0, none⟩), by simp [go_sem, e0], rfl⟩
    · refine step_pure rfl fun A ww hb hw hf => ?_
      have e0 : A.tmps[9]?.getD undef = .pointer (some ⟨q, 0, none⟩) := gdv (hf 6 9 (by kernel_rfl))
      exact ⟨.pointer (some ⟨q, 1, none⟩), by simp [go_sem, e0], rfl⟩
    · refine step_pure rfl fun A ww hb hw hf => ?_
      have e0 : A.tmps[10]?.getD undef = .pointer (some ⟨q, 1, none⟩) := gdv (hf 7 10 (by kernel_rfl))
      have hc : ww.cell? ⟨q, 1, none⟩ = some (.int .i64 ea) := cellq hw h1
      exact ⟨.int .i64 ea, by simp [go_sem, e0, hc], rfl⟩
  intro A W hb hw hF
  have e7 : RowB W w.heap.size (A.tmps.getD 7 undef) (lsL ls) := hF 4 7 (by kernel_rfl) (by kernel_rfl)
  have e11 : A.tmps.getD 11 undef = .int .i64 ea := hF 8 11 (by kernel_rfl) (by kernel_rfl)
  show Calls Tryz.prog 20 #[A.tmps.getD 7 undef, A.tmps.getD 11 undef, .int .i64 1] W _
  rw [e11]
  refine (appendNumber_any W w.heap.size _ (lsL ls) e7 hw.size ea 1 (by decide) (by omega)).mono ?_
  rintro r w' ⟨x, rfl, R, n⟩
  refine ⟨x, rfl, fun vs e2 => ?_⟩
  have N := hw.trans n
  clear hb hF h0 h1 H e7 e11 n hw
  simp only [puts, e2, Act.put, List.setIfInBounds_toArray, List.set_cons_succ, List.set_cons_zero]
  go_wp2
  go_ret
  exact ⟨⟨_, rfl, R⟩, N⟩
end Go.Proofs.YtmfajpplagbfcaaGreatDoor
namespace Go.Proofs.YtmfajpplagbfcaaGreatDoor
set_option maxRecDepth 100000
open Go Go.RowKit
def bdL (t : List Int) (ag ea : Int) (b : List Int) : List Int := if t.length = 0 then [] else bigL ag 4 ++ (bigL ea 1 ++ b)
def heL (v : Int) (r s : List Int) (ho : List UInt8) (pr : List (List UInt8)) (t : List Int) (ag ea : Int) (b : List Int) : List Int := fpL v r s ++ (shL ho ++ (lsL pr ++ (loL t ++ bdL t ag ea b)))
set_option maxHeartbeats 4000000 in
theorem helloBody_any (w : World) (q : Nat) (v : Int) (l1 l2 l3 l4 : LstZ) (ho : List UInt8) (g : Nat) (a : Option Addr) (c : Nat) (ls : List (List UInt8)) (ag ea : Int)
    (h0 : w.cell? ⟨q, 0, none⟩ = some (.int .i64 v)) (h1 : w.cell? ⟨q, 1, none⟩ = some (.slice l1.a l1.xs.length l1.c)) (h2 : w.cell? ⟨q, 2, none⟩ = some (.slice l2.a l2.xs.length l2.c)) (h3 : w.cell? ⟨q, 3, none⟩ = some (.string ⟨⟨ho⟩⟩)) (h4 : w.cell? ⟨q, 4, none⟩ = some (.slice a ls.length c))
    (h5 : w.cell? ⟨q, 5, none⟩ = some (.slice l3.a l3.xs.length l3.c)) (h6 : w.cell? ⟨q, 6, none⟩ = some (.int .i64 ag)) (h7 : w.cell? ⟨q, 7, none⟩ = some (.int .i64 ea)) (h8 : w.cell? ⟨q, 8, none⟩ = some (.slice l4.a l4.xs.length l4.c))
    (H1 : LstR w l1) (H2 : LstR w l2) (H3 : LstR w l3) (H4 : LstR w l4) (H : TxsR w g a ls) (hh : ho.length ≤ 1048576) :
    Calls Tryz.prog 127 #[.pointer (some ⟨q, 0, none⟩)] w (BodP w (heL v l1.xs l2.xs ho ls l3.xs ag ea l4.xs)) := by
  obtain ⟨i0, hi, hz0, hz1, hz2⟩ := info_parts Tryz.info5
  have e1 := fpL_len v l1.xs l2.xs
  have m1 := H1.m
  have m2 := H2.m
  have m3 := H3.m
  have m4 := H4.m
  have lf : (fpL v l1.xs l2.xs).length ≤ 2097153 := by omega
  have lt := shL_len ho
  have ll := lsL_len ls H.n H.z
  have l3l := loL_len l3.xs
  have EE := hide (show heL v l1.xs l2.xs ho ls l3.xs ag ea l4.xs = fpL v l1.xs l2.xs ++ (shL ho ++ (lsL ls ++ (loL l3.xs ++ bdL l3.xs ag ea l4.xs))) from rfl)
  clear e1 m1 m2
  generalize heL v l1.xs l2.xs ho ls l3.xs ag ea l4.xs = out at *
  go_enter Tryz.func127, Tryz.ntmps127
  go_upto_region 1 with fail
  refine region_callA 8 _ _ (fun i => [Fact.eq (.pointer (some ⟨q, 0, none⟩)), Fact.eq (.pointer (some ⟨q, 0, none⟩)), Fact.eq (.pointer (some ⟨q, 0, none⟩)), RBf w.heap.size (fpL v l1.xs l2.xs), Fact.eq (.pointer (some ⟨q, 0, none⟩)), Fact.eq (.pointer (some ⟨q, 0, none⟩)), Fact.eq (.pointer (some ⟨q, 3, none⟩)), Fact.eq (.string ⟨⟨ho⟩⟩)].getD i Fact.no) (by kernel_rfl) (by kernel_rfl) rfl rfl rfl 12 3 rfl rfl rfl (by show (12 : Nat) < 50; decide) (by show (3 : Nat) < 50; decide) ?_ 131 _ _ rfl (by kernel_rfl) ?_
  · intro i hi
    obtain rfl | rfl | rfl | rfl | rfl | rfl | rfl | rfl : i = 0 ∨ i = 1 ∨ i = 2 ∨ i = 3 ∨ i = 4 ∨ i = 5 ∨ i = 6 ∨ i = 7 := by omega
    · refine step_pure rfl fun A ww hb hw hf => ?_
      have e0 : A.tmps[0]?.getD undef = .pointer (some ⟨q, 0, none⟩) := gdv (hb.2.2 0 (by kernel_rfl))
      exact ⟨.pointer (some ⟨q, 0, none⟩), by simp [go_sem, e0], rfl⟩
    · refine step_pure rfl fun A ww hb hw hf => ?_
      have e0 : A.tmps[4]?.getD undef = .pointer (some ⟨q, 0, none⟩) := gdv (hf 0 4 (by kernel_rfl))
      exact ⟨.pointer (some ⟨q, 0, none⟩), by simp [go_sem, e0], rfl⟩
    · refine step_pure rfl fun A ww hb hw hf => ?_
      have e0 : A.tmps[5]?.getD undef = .pointer (some ⟨q, 0, none⟩) := gdv (hf 1 5 (by kernel_rfl))
      exact ⟨.pointer (some ⟨q, 0, none⟩), by simp [go_sem, e0], rfl⟩
    · refine step_callv rfl 132 _ _ rfl (by kernel_rfl) fun A ww hb hw hf => ?_
      have e6 : A.tmps.getD 6 undef = .pointer (some ⟨q, 0, none⟩) := hf 2 6 (by kernel_rfl)
      show Calls Tryz.prog 132 #[A.tmps.getD 6 undef] ww _
      rw [e6]
      refine (firstBody_any ww q v l1 l2 (cellq hw h0) (cellq hw h1) (cellq hw h2) (H1.up hw).r (H2.up hw).r H1.z H2.z H1.m H2.m).mono ?_
      rintro r w' ⟨⟨x, rfl, R⟩, n⟩
      exact ⟨x, rfl, n, R.base hw.size⟩
    · refine step_pure rfl fun A ww hb hw hf => ?_
      have e0 : A.tmps[0]?.getD undef = .pointer (some ⟨q, 0, none⟩) := gdv (hb.2.2 0 (by kernel_rfl))
      exact ⟨.pointer (some ⟨q, 0, none⟩), by simp [go_sem, e0], rfl⟩
    · refine step_pure rfl fun A ww hb hw hf => ?_
      have e0 : A.tmps[8]?.getD undef = .pointer (some ⟨q, 0, none⟩) := gdv (hf 4 8 (by kernel_rfl))
      exact ⟨.pointer (some ⟨q, 0, none⟩), by simp [go_sem, e0], rfl⟩
    · refine step_pure rfl fun A ww hb hw hf => ?_
      have e0 : A.tmps[9]?.getD undef = .pointer (some ⟨q, 0, none⟩) := gdv (hf 5 9 (by kernel_rfl))
      exact ⟨.pointer (some ⟨q, 3, none⟩), by simp [go_sem, e0], rfl⟩
    · refine step_pure rfl fun A ww hb hw hf => ?_
      have e0 : A.tmps[10]?.getD undef = .pointer (some ⟨q, 3, none⟩) := gdv (hf 6 10 (by kernel_rfl))
      have hc : ww.cell? ⟨q, 3, none⟩ = some (.string ⟨⟨ho⟩⟩) := cellq hw h3
      exact ⟨.string ⟨⟨ho⟩⟩, by simp [go_sem, e0, hc], rfl⟩
  intro A W hb hw hF
  have e7 : RowB W w.heap.size (A.tmps.getD 7 undef) (fpL v l1.xs l2.xs) := hF 3 7 (by kernel_rfl) (by kernel_rfl)
  have e11 : A.tmps.getD 11 undef = .string ⟨⟨ho⟩⟩ := hF 7 11 (by kernel_rfl) (by kernel_rfl)
  show Calls Tryz.prog 131 #[A.tmps.getD 7 undef, A.tmps.getD 11 undef] W _
  rw [e11]
  refine (appendShort_any W w.heap.size _ (fpL v l1.xs l2.xs) e7 hw.size ho (by omega) hh).mono ?_
  rintro r w1 ⟨x1, rfl, R1, n1⟩
  refine ⟨x1, rfl, fun vs e2 => ?_⟩
  have N1 := hw.trans n1
  clear hb hF h0 h1 h2 h3 e7 e11 n1 hw H1 H2
  simp only [puts, e2, Act.put, List.setIfInBounds_toArray, List.set_cons_succ, List.set_cons_zero]
  -- the protocols
  have k4 := cellq N1 h4
  have C2 := hide (appendShorts_any w1 w.heap.size x1 _ R1 N1.size g a c ls (H.up N1).r H.g (by rw [List.length_append]; omega) H.n H.z)
  clear R1 h4 H
  go_wp2_with fail
  refine C2.out.mono ?_
  rintro r w2 ⟨x2, rfl, R2, n2⟩
  have N2 := N1.trans n2
  clear N1 n2 C2 k4
  -- the ticket
  have k5 := cellq N2 h5
  have C3 := hide (appendLong_any w2 w.heap.size x2 _ R2 N2.size l3.g l3.a l3.c l3.xs (H3.up N2).r H3.z H3.g (by rw [List.length_append, List.length_append]; omega) H3.m)
  clear R2
  go_wp2_with fail
  refine C3.out.mono ?_
  rintro r w3 ⟨x3, rfl, R3, n3⟩
  have N3 := N2.trans n3
  clear N2 n3 C3 k5
  replace h5 := cellq N3 h5
  by_cases t0 : l3.xs.length = 0
  · have d0 : ((l3.xs.length : Int) == 0) = true := beq_iff_eq.2 (by omega)
    have ER : out = fpL v l1.xs l2.xs ++ shL ho ++ lsL ls ++ loL l3.xs := by
      rw [EE.out, bdL, if_pos t0]
      simp only [List.append_nil, List.append_assoc]
    rw [← ER] at R3
    clear ER EE
    go_wp2
    go_ret
    exact ⟨⟨_, rfl, R3⟩, N3⟩
  · have d0 : ((l3.xs.length : Int) == 0) = false := beq_eq_false_iff_ne.2 (by omega)
    have k6 := cellq N3 h6
    have b4 := bigL_len ag 4
    have b1 := bigL_len ea 1
    have C4 := hide (appendNumber_any w3 w.heap.size x3 _ R3 N3.size ag 4 (by decide) (by simp only [List.length_append]; omega))
    clear R3
    go_wp2_with fail
    refine C4.out.mono ?_
    rintro r w4 ⟨x4, rfl, R4, n4⟩
    have N4 := N3.trans n4
    clear n4 C4 k6 h5 h6
    have k7 := cellq N4 h7
    have C5 := hide (appendNumber_any w4 w.heap.size x4 _ R4 N4.size ea 1 (by decide) (by simp only [List.length_append]; omega))
    clear R4
    go_wp2_with fail
    refine C5.out.mono ?_
    rintro r w5 ⟨x5, rfl, R5, n5⟩
    have N5 := N4.trans n5
    clear N4 n5 C5 k7 h7
    have k8 := cellq N5 h8
    obtain ⟨x6, w6, hap, R6, n6⟩ := append_any (P := Tryz.prog) w5 22 i0 Tryz.underlying22 hi hz0 hz1 hz2 w.heap.size w.heap.size _ _ R5 l4.g l4.a l4.c l4.xs (H4.up N5).r H4.z (by simp only [List.length_append]; omega) (Nat.le_refl _) N5.size
    have N6 := N5.trans n6
    have ER : out = fpL v l1.xs l2.xs ++ shL ho ++ lsL ls ++ loL l3.xs ++ bigL ag 4 ++ bigL ea 1 ++ l4.xs := by
      rw [EE.out, bdL, if_neg t0]
      simp only [List.append_assoc]
    rw [← ER] at R6
    clear ER EE R5 n6 N5 N3 H3 H4
    go_wp2_with (at_builtin; refine Lib.wpList_append_run _ rfl _ _ 22 22 rfl _ _ rfl rfl _ _ hap ?_)
    go_ret
    exact ⟨⟨_, rfl, R6⟩, N6⟩
end Go.Proofs.YtmfajpplagbfcaaGreatDoor
namespace Go.Proofs.YtmfajpplagbfcaaGreatDoor
set_option maxRecDepth 100000
open Go Go.RowKit
theorem rowBl : ∃ d, Tryz.prog.underlying 58 = some d ∧ d.isRow = true := ⟨_, Tryz.underlying58, rfl⟩
structure CtsR (w : World) (g : Nat) (a : Option Addr) (bs : List (List Int)) (ps : List Plb) : Prop where
  r : RdL w g a bs ps
  n : bs.length ≤ 4
  z : ∀ i, i < bs.length → (bs.getD i []).length ≤ 1048576
  y : ∀ i, i < bs.length → (ps.getD i plb0).a = none → (ps.getD i plb0).c = 0
  q : ∀ i, i < bs.length → (bs.getD i []).length = 0 ∨ (ps.getD i plb0).q < w.heap.size
theorem CtsR.up {w w' : World} {g : Nat} {a : Option Addr} {bs : List (List Int)} {ps : List Plb} (h : CtsR w g a bs ps) (n : Below w.heap.size w w') : CtsR w' g a bs ps := ⟨h.r.up n, h.n, h.z, h.y, fun i hi => (h.q i hi).imp id fun x => Nat.lt_of_lt_of_le x n.size⟩
theorem lo_take (bs : List (List Int)) (k : Nat) (h : k < bs.length) : ((bs.map loL).take (k + 1)).flatten = ((bs.map loL).take k).flatten ++ loL (bs.getD k []) := by
  rw [List.take_add_one]
  simp [h]
theorem lo_sum (bs : List (List Int)) (B : Nat) (hz : ∀ i, i < bs.length → (bs.getD i []).length ≤ B) (k : Nat) : ((bs.map loL).take k).flatten.length ≤ k * (B + 2) := by
  induction k with
  | zero => simp
  | succ k ih =>
    by_cases h : k < bs.length
    · rw [lo_take bs k h, List.length_append, loL_len, Nat.succ_mul]
      have := hz k h
      omega
    · rw [List.take_of_length_le (by simp; omega)]
      rw [List.take_of_length_le (by simp; omega)] at ih
      rw [Nat.succ_mul]
      omega
set_option maxHeartbeats 2000000 in
theorem certsBody_any (w : World) (q g : Nat) (a : Option Addr) (c : Nat) (bs : List (List Int)) (ps : List Plb) (h0 : w.cell? ⟨q, 0, none⟩ = some (.slice a bs.length c)) (H : CtsR w g a bs ps) :
    Calls Tryz.prog 162 #[.pointer (some ⟨q, 0, none⟩)] w (BodP w (clL bs)) := by
  obtain ⟨i0, hi, hz0, hz1, hz2⟩ := info_parts Tryz.info5
  obtain ⟨dB, hdB, hrowB⟩ := rowBl
  have SUM := hide (lo_sum bs 1048576 H.z)
  have hn := H.n
  have n1 : Below w.heap.size w (w.alloc (.cells #[.int .u8 (bs.length : Int)] 5)) := (Below.refl _ _).alloc (Nat.le_refl _) _
  have R1 := RowB.lit1 w (bs.length : Int)
  have k0 := cellq n1 h0
  go_enter Tryz.func162, Tryz.ntmps162
  go_wp2
  generalize w.alloc (.cells #[.int .u8 (bs.length : Int)] 5) = wa at *
  go_loopw [3, 5, 18] (fun x _ i wr => ∃ k : Nat, k ≤ bs.length ∧ i = .int .i64 k ∧ RowB wr w.heap.size x ([(bs.length : Int)] ++ ((bs.map loL).take k).flatten) ∧ Below w.heap.size w wr) (fun _ _ i _ => bs.length - (intOf i).toNat)
  case atStart => exact ⟨0, Nat.zero_le _, rfl, by simpa using R1, n1⟩
  case round =>
    obtain ⟨k, hk, rfl, R, hN⟩ := hrel
    clear R1 n1 k0
    by_cases hlt : k < bs.length
    · have HW := H.up hN
      obtain ⟨off, ea, hc⟩ := HW.r.r (by omega)
      subst ea
      have t0 : (k : Int) < (bs.length : Int) := by omega
      have c1 := hc k hlt
      have rb := HW.r.b k hlt
      have ST := hide (lo_take bs k hlt)
      have zk := H.z k hlt
      have yk := H.y k hlt
      have qk := H.q k hlt
      have SK : ([(bs.length : Int)] ++ ((bs.map loL).take k).flatten).length ≤ 1073741824 := by
        have := SUM.out k
        have : k * (1048576 + 2) ≤ 4 * (1048576 + 2) := Nat.mul_le_mul_right _ (by omega)
        simp only [List.length_append, List.length_cons, List.length_nil]
        omega
      have RG : wr.rangeAt g (off + k) [.slice (ps.getD k plb0).a (bs.getD k []).length (ps.getD k plb0).c] := fun j v hj => by
        match j, hj with
        | 0, hj => simp at hj; subst hj; exact c1
      clear hc HW SUM
      generalize bs.getD k [] = y at *
      generalize ps.getD k plb0 = p at *
      have nA : Below wr.heap.size wr (wr.alloc (.cells #[.slice p.a y.length p.c] 58)) := (Below.refl _ _).alloc (Nat.le_refl _) _
      have NA : Below w.heap.size w (wr.alloc (.cells #[.slice p.a y.length p.c] 58)) := hN.trans (nA.mono hN.size)
      have CL := hide (appendLong_any _ w.heap.size _ _ (R.up nA) NA.size p.q p.a p.c y (rb.up nA) yk qk SK zk)
      go_wp2_with fail
      refine CL.out.mono ?_
      rintro r w4 ⟨v4, rfl, R4, n4⟩
      rw [List.append_assoc, ← ST.out] at R4
      have N4 := NA.trans n4
      clear CL n4 hN ST c1 nA NA RG rb R H
      go_wp2
      go_roundw
      case rel => exact ⟨k + 1, by omega, by go_num, R4, N4⟩
      case measure => simp [intOf]; omega
    · obtain rfl : k = bs.length := by omega
      rw [List.take_of_length_le (by simp)] at R
      clear H SUM
      go_wp2
      go_ret
      exact ⟨⟨_, rfl, R⟩, hN⟩
end Go.Proofs.YtmfajpplagbfcaaGreatDoor
