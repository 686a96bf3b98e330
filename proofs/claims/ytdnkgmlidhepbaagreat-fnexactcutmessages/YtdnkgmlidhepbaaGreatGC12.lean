import Derived.Test.YtdnkgmlidhepbaaGreatGC11
import Derived.Test.YtdnkgmlidhepbaaGreatGCxRg3
import Derived.Test.YtdnkgmlidhepbaaGreatGC6
import Derived.Test.YtdnkgmlidhepbaaGreatGC10
import Derived.BigRegion
import Derived.Deep.RegionWith
namespace Go.Proofs.YtdnkgmlidhepbaaGreat
open Go Go.RowKit
section
variable {P : Program} {ops : Array Oper} {Q : Exit → Act → World → Prop} {a0 : Act}
theorem region_callA {id : Nat} {w : World} {draw : Bool} (k : Nat) (o o2 : Oper) (F : Nat → Fact) (hm : P.follows .mixedOrders = true) (hT : textTail .any draw ops a0.tmps.size k = true) (hk : ops.toList.drop k = [o, o2]) (ho : ops[k]? = some o) (ho2 : ops[k + 1]? = some o2) (dd d2 : Nat) (hdd : o.dst = some dd) (hd2 : o2.dst = some d2) (hop2 : o2.op = .assign (.tmp dd)) (s1 : dd < a0.tmps.size) (s2 : d2 < a0.tmps.size)
    (steps : ∀ i, i < k → StepOk P .any ops Q F a0 w i)
    (n : FuncId) (args : Array Operand) (ts : Array TypeId) (hop : o.op = .call { callee := .value (.func n), args := args, argTypes := ts }) (he : enters P n = true)
    (fin : ∀ a w', Based ops a0 a → Below w.heap.size w w' → (∀ i d, decide (i < k) = true → writes ops i d = true → (F i).p (a.tmps.getD d undef) w') →
      Calls P n (args.toList.map a.eval).toArray w' fun e w'' => ∃ v, e = .returned v ∧ ∀ vs : Nat → Value, vs d2 = v → Q .normal (puts vs a0 ops.toList) w'') : (Code.region id ops draw).wp P Q a0 w := by
  refine region_tail k F hm hT steps [] (by simp) (by simp) fun a w' hb hw hf _ => ?_
  rw [hk]
  show o.wp P a w' (fun a' w'' => o2.wp P a' w'' (fun a'' w3 => Q .normal a'' w3) Q) Q
  have hr : (execOp a.eval o).run P w' = .ok (.enter n (args.map a.eval)) w' := by
    have h0 : (Deferred.ofValue (Value.func (Fn.func n) #[] #[]) (args.map a.eval)).run P w' = .ok { target := .fn (.func n) #[], args := args.map a.eval } w' := by simp [Deferred.ofValue]
    simp [execOp, hop, resolve, invoke, Act.eval, h0, run_enter he]
  have e : args.map a.eval = (args.toList.map a.eval).toArray := by cases args; simp
  unfold Oper.wp
  rw [hr, e, Oper.upon_enter]
  refine (fin a w' hb hw hf).mono ?_
  rintro e w'' ⟨v, rfl, hv⟩
  have hb1 := Based.put hb ho v
  have ea : (a.put o.dst v).eval (.tmp dd) = v := by
    rw [hdd]
    exact put_at (by rw [hb.2.1]; exact s1)
  have hr2 : (execOp (a.put o.dst v).eval o2).run P w'' = .ok (.value v) w'' := by
    simp [execOp, hop2, ea]
  have hb2 := Based.put hb1 ho2 v
  have e2 : ((a.put o.dst v).put o2.dst v).tmps.getD d2 undef = v := by
    rw [hd2]
    exact put_at (by rw [hb1.2.1]; exact s2)
  show o2.upon P (a.put o.dst v) (fun a'' w3 => Q .normal a'' w3) Q ((execOp (a.put o.dst v).eval o2).run P w'')
  rw [hr2, Oper.upon_value]
  show Q .normal ((a.put o.dst v).put o2.dst v) w''
  obtain ⟨vs, hvs⟩ : ∃ vs : Nat → Value, ∀ d, ((a.put o.dst v).put o2.dst v).tmps.getD d undef = vs d := ⟨_, fun _ => rfl⟩
  rw [puts_tail hT rfl hb2 vs hvs]
  exact hv vs (by rw [← hvs, e2])
end
def BodP (w : World) (xs : List Int) (e : Ending) (w' : World) : Prop := (∃ x, e = .returned x ∧ RowB w' w.heap.size x xs) ∧ Below w.heap.size w w'
structure LstR (w : World) (l : Lst) : Prop where
  r : Rd w l.g l.a .u8 l.xs
  z : l.a = none → l.c = 0
  m : l.xs.length ≤ 1048576
  g : l.xs.length = 0 ∨ l.g < w.heap.size
theorem LstR.up {w w' : World} {l : Lst} (h : LstR w l) (n : Below w.heap.size w w') : LstR w' l := ⟨h.r.up n, h.z, h.m, h.g.imp id fun x => Nat.lt_of_lt_of_le x n.size⟩
theorem LstR.nil {w : World} {l : Lst} (h : LstR w l) (ha : l.a = none) : l.xs = [] := by
  by_cases h0 : 0 < l.xs.length
  · obtain ⟨off, e, _⟩ := h.r h0
    rw [ha] at e
    simp at e
  · exact List.eq_nil_of_length_eq_zero (by omega)
theorem endBody_any (w : World) (v : Value) : Calls Tryz.prog 121 #[v] w (BodP w []) := by
  go_enter Tryz.func121, Tryz.ntmps121
  go_wp2
  go_ret
  exact ⟨⟨_, rfl, RowB.nil _ _⟩, Below.refl _ _⟩
theorem updateBody_any (w : World) (q : Nat) (n : Int) (h0 : w.cell? ⟨q, 0, none⟩ = some (.int .i64 n)) : Calls Tryz.prog 144 #[.pointer (some ⟨q, 0, none⟩)] w (BodP w (bigL n 1)) := by
  have C := hide (appendNumber_any w w.heap.size (.slice none 0 0) [] (RowB.nil w _) (Nat.le_refl _) n 1 (by decide) (by simp))
  go_enter Tryz.func144, Tryz.ntmps144
  go_wp2_with fail
  refine C.out.mono ?_
  rintro r w1 ⟨v1, rfl, R1, n1⟩
  go_wp2
  go_ret
  exact ⟨⟨_, rfl, R1⟩, n1⟩
set_option maxRecDepth 100000 in
set_option maxHeartbeats 1000000 in
theorem cloneB_any (w : World) (l : Lst) (h : LstR w l) : Calls Tryz.prog 29 #[.slice l.a l.xs.length l.c] w (BodP w l.xs) := by
  obtain ⟨i0, hi, hz0, hz1, hz2⟩ := info_parts Tryz.info5
  cases ha : l.a with
  | none =>
    rw [h.nil ha, h.z ha]
    have b0 : ∀ W, (binOp BinOp.eql 22 (.slice none 0 0) (.slice none 0 0)).run Tryz.prog W = .ok (.bool true) W := fun W => by kernel_rfl
    go_enter Tryz.func29, Tryz.ntmps29
    go_wp2
    go_ret
    exact ⟨⟨_, rfl, RowB.nil _ _⟩, Below.refl _ _⟩
  | some ad =>
    have n0 : Below w.heap.size w (w.alloc (.cells #[] 5)) := (Below.refl _ _).alloc (Nat.le_refl _) _
    have r := h.r.up n0
    have m := h.m
    rw [ha] at r
    obtain ⟨v1, w1, hap, R1, n1⟩ := append_any (P := Tryz.prog) (w.alloc (.cells #[] 5)) 22 i0 Tryz.underlying22 hi hz0 hz1 hz2 w.heap.size w.heap.size _ _ (RowB.lit0 w) l.g (some ad) l.c l.xs r (by simp) (by simp; omega) (Nat.le_refl _) n0.size
    have N1 := n0.trans n1
    rw [List.nil_append] at R1
    have b0 : ∀ W, (binOp BinOp.eql 22 (.slice (some ad) l.xs.length l.c) (.slice none 0 0)).run Tryz.prog W = .ok (.bool false) W := fun W => by kernel_rfl
    clear n0 n1 r m h
    go_enter Tryz.func29, Tryz.ntmps29
    go_wp2_with (at_builtin; refine Lib.wpList_append_run _ rfl _ _ 22 22 rfl _ _ rfl rfl _ _ hap ?_)
    go_ret
    exact ⟨⟨_, rfl, R1⟩, N1⟩
theorem proofBody_any (w : World) (q : Nat) (l : Lst) (h : LstR w l) (h0 : w.cell? ⟨q, 0, none⟩ = some (.slice l.a l.xs.length l.c)) : Calls Tryz.prog 136 #[.pointer (some ⟨q, 0, none⟩)] w (BodP w l.xs) := by
  have C := hide (cloneB_any w l h)
  clear h
  go_enter Tryz.func136, Tryz.ntmps136
  go_wp2_with fail
  refine C.out.mono ?_
  rintro r w1 ⟨⟨v1, rfl, R1⟩, n1⟩
  go_wp2
  go_ret
  exact ⟨⟨_, rfl, R1⟩, n1⟩
theorem finishedBody_any (w : World) (q : Nat) (l : Lst) (h : LstR w l) (h0 : w.cell? ⟨q, 0, none⟩ = some (.slice l.a l.xs.length l.c)) : Calls Tryz.prog 140 #[.pointer (some ⟨q, 0, none⟩)] w (BodP w l.xs) := by
  have C := hide (cloneB_any w l h)
  clear h
  go_enter Tryz.func140, Tryz.ntmps140
  go_wp2_with fail
  refine C.out.mono ?_
  rintro r w1 ⟨⟨v1, rfl, R1⟩, n1⟩
  go_wp2
  go_ret
  exact ⟨⟨_, rfl, R1⟩, n1⟩
end Go.Proofs.YtdnkgmlidhepbaaGreat
namespace Go.Proofs.YtdnkgmlidhepbaaGreat
open Go Go.RowKit
theorem cellq {w w' : World} (n : Below w.heap.size w w') {q i : Nat} {x : Value} (h : w.cell? ⟨q, i, none⟩ = some x) : w'.cell? ⟨q, i, none⟩ = some x :=
  (World.cell?_of_block (a := ⟨q, i, none⟩) (n.block q (block_lt_of_cell h))).trans h
set_option maxRecDepth 100000 in
set_option maxHeartbeats 1000000 in
theorem answerBody_any (w : World) (q : Nat) (v : Int) (l1 l2 : Lst) (rs : Bool) (h0 : w.cell? ⟨q, 0, none⟩ = some (.int .i64 v)) (h1 : w.cell? ⟨q, 1, none⟩ = some (.slice l1.a l1.xs.length l1.c)) (h2 : w.cell? ⟨q, 2, none⟩ = some (.slice l2.a l2.xs.length l2.c)) (h3 : w.cell? ⟨q, 3, none⟩ = some (.bool rs)) (H1 : LstR w l1) (H2 : LstR w l2) :
    Calls Tryz.prog 114 #[.pointer (some ⟨q, 0, none⟩)] w (BodP w (fpL v l1.xs l2.xs ++ [if rs = true then 1 else 0])) := by
  obtain ⟨i0, hi, hz0, hz1, hz2⟩ := info_parts Tryz.info5
  have C := hide (firstBody_any w q v l1 l2 h0 h1 h2 H1.r H2.r H1.z H2.z H1.m H2.m)
  have lf := fpL_len v l1.xs l2.xs
  have m1 := H1.m
  have m2 := H2.m
  have lt : (fpL v l1.xs l2.xs).length ≤ 4194304 := by omega
  clear h0 h1 h2 H1 H2 lf m1 m2
  generalize fpL v l1.xs l2.xs = fs at *
  cases rs
  · go_enter Tryz.func114, Tryz.ntmps114
    go_wp2_with fail
    refine C.out.mono ?_
    rintro r w1 ⟨⟨v1, rfl, R1⟩, n1⟩
    have n2 : Below w1.heap.size w1 (w1.alloc (.cells #[.int .u8 0] 5)) := (Below.refl _ _).alloc (Nat.le_refl _) _
    obtain ⟨v3, w3, hap3, R3, n3⟩ := append_any (P := Tryz.prog) (w1.alloc (.cells #[.int .u8 0] 5)) 22 i0 Tryz.underlying22 hi hz0 hz1 hz2 w.heap.size w.heap.size _ _ (R1.up n2) _ _ 1 [0] (blk_lit1 w1 .u8 5 0).own0.rd (by simp) (by simp; omega) (Nat.le_refl _) (nxt n1 n2).size
    have N3 := (nxt n1 n2).trans n3
    clear n1 n2 n3 R1 C
    go_wp2_with (at_builtin; refine Lib.wpList_append_run _ rfl _ _ 22 22 rfl _ _ rfl rfl _ _ hap3 ?_)
    go_ret
    exact ⟨⟨_, rfl, R3⟩, N3⟩
  · go_enter Tryz.func114, Tryz.ntmps114
    go_wp2_with fail
    refine C.out.mono ?_
    rintro r w1 ⟨⟨v1, rfl, R1⟩, n1⟩
    have n2 : Below w1.heap.size w1 (w1.alloc (.cells #[.int .u8 1] 5)) := (Below.refl _ _).alloc (Nat.le_refl _) _
    obtain ⟨v3, w3, hap3, R3, n3⟩ := append_any (P := Tryz.prog) (w1.alloc (.cells #[.int .u8 1] 5)) 22 i0 Tryz.underlying22 hi hz0 hz1 hz2 w.heap.size w.heap.size _ _ (R1.up n2) _ _ 1 [1] (blk_lit1 w1 .u8 5 1).own0.rd (by simp) (by simp; omega) (Nat.le_refl _) (nxt n1 n2).size
    have N3 := (nxt n1 n2).trans n3
    clear n1 n2 n3 R1 C
    go_wp2_with (at_builtin; refine Lib.wpList_append_run _ rfl _ _ 22 22 rfl _ _ rfl rfl _ _ hap3 ?_)
    go_ret
    exact ⟨⟨_, rfl, R3⟩, N3⟩
def tkL (ag ea : Int) (r t : List Int) : List Int := bigL ag 4 ++ bigL ea 4 ++ r ++ loL t
set_option maxHeartbeats 1000000 in
theorem ticketBody_any (w : World) (q : Nat) (ag ea : Int) (l1 l2 : Lst) (h0 : w.cell? ⟨q, 0, none⟩ = some (.int .i64 ag)) (h1 : w.cell? ⟨q, 1, none⟩ = some (.int .i64 ea)) (h2 : w.cell? ⟨q, 2, none⟩ = some (.slice l1.a l1.xs.length l1.c)) (h3 : w.cell? ⟨q, 3, none⟩ = some (.slice l2.a l2.xs.length l2.c)) (H1 : LstR w l1) (H2 : LstR w l2) :
    Calls Tryz.prog 117 #[.pointer (some ⟨q, 0, none⟩)] w (BodP w (tkL ag ea l1.xs l2.xs)) := by
  obtain ⟨i0, hi, hz0, hz1, hz2⟩ := info_parts Tryz.info5
  have C := hide (appendNumber_any w w.heap.size (.slice none 0 0) [] (RowB.nil w _) (Nat.le_refl _) ag 4 (by decide) (by simp))
  go_enter Tryz.func117, Tryz.ntmps117
  go_wp2_with fail
  refine C.out.mono ?_
  rintro r w1 ⟨v1, rfl, R1, n1⟩
  rw [List.nil_append] at R1
  have k1 := cellq n1 h1
  have b4 := bigL_len ag 4
  have C2 := hide (appendNumber_any w1 w.heap.size v1 _ R1 n1.size ea 4 (by decide) (by rw [b4]; decide))
  clear C h0
  go_wp2_with fail
  refine C2.out.mono ?_
  rintro r w2 ⟨v2, rfl, R2, n2⟩
  have N2 := n1.trans n2
  have k2 := cellq N2 h2
  have b5 := bigL_len ea 4
  have m1 := H1.m
  obtain ⟨v3, w3, hap3, R3, n3⟩ := append_any (P := Tryz.prog) w2 22 i0 Tryz.underlying22 hi hz0 hz1 hz2 w.heap.size w.heap.size _ _ R2 l1.g l1.a l1.c l1.xs (H1.up N2).r H1.z (by rw [List.length_append]; omega) (Nat.le_refl _) N2.size
  have N3 := N2.trans n3
  have k3 := cellq N3 h3
  have C4 := hide (appendLong_any w3 w.heap.size v3 _ R3 N3.size l2.g l2.a l2.c l2.xs (H2.up N3).r H2.z H2.g (by rw [List.length_append, List.length_append]; omega) H2.m)
  clear C2 R1 R2 R3 n1 n2 n3 N2 h1 h2 h3 k1 H1 H2 b4 b5 m1
  go_wp2_with (at_builtin; refine Lib.wpList_append_run _ rfl _ _ 22 22 rfl _ _ rfl rfl _ _ hap3 ?_)
  refine C4.out.mono ?_
  rintro r w4 ⟨v4, rfl, R4, n4⟩
  have N4 := N3.trans n4
  clear C4 n4 N3 hap3 k2 k3
  go_wp2
  go_ret
  exact ⟨⟨_, rfl, R4⟩, N4⟩
structure TxsR (w : World) (g : Nat) (a : Option Addr) (ls : List (List UInt8)) : Prop where
  r : RdT w g a ls
  n : ls.length ≤ 8
  z : ∀ l ∈ ls, l.length ≤ 1048576
  g : ls.length = 0 ∨ g < w.heap.size
theorem TxsR.up {w w' : World} {g : Nat} {a : Option Addr} {ls : List (List UInt8)} (h : TxsR w g a ls) (n : Below w.heap.size w w') : TxsR w' g a ls := ⟨h.r.up n, h.n, h.z, h.g.imp id fun x => Nat.lt_of_lt_of_le x n.size⟩
theorem lsL_len (ls : List (List UInt8)) (h : ls.length ≤ 8) (hz : ∀ l ∈ ls, l.length ≤ 1048576) : (lsL ls).length ≤ 8388617 := by
  have := sh_sum ls 1048576 hz ls.length
  rw [List.take_of_length_le (by simp)] at this
  unfold lsL
  rw [List.length_append]
  have : ls.length * (1048576 + 1) ≤ 8 * (1048576 + 1) := Nat.mul_le_mul_right _ h
  simp only [List.length_cons, List.length_nil]
  omega
set_option maxHeartbeats 4000000 in
theorem extrasBody_any (w : World) (q : Nat) (g : Nat) (a : Option Addr) (c : Nat) (ls : List (List UInt8)) (ea : Int) (h0 : w.cell? ⟨q, 0, none⟩ = some (.slice a ls.length c)) (h1 : w.cell? ⟨q, 1, none⟩ = some (.int .i64 ea)) (H : TxsR w g a ls) :
    Calls Tryz.prog 125 #[.pointer (some ⟨q, 0, none⟩)] w (BodP w (lsL ls ++ bigL ea 1)) := by
  have ll := lsL_len ls H.n H.z
  go_enter Tryz.func125, Tryz.ntmps125
  go_upto_region 1 with fail
  refine region_callA 9 _ _ (fun i => [Fact.eq (.pointer (some ⟨q, 0, none⟩)), Fact.eq (.pointer (some ⟨q, 0, none⟩)), Fact.eq (.pointer (some ⟨q, 0, none⟩)), Fact.eq (.slice a ls.length c), RBf w.heap.size (lsL ls), Fact.eq (.pointer (some ⟨q, 0, none⟩)), Fact.eq (.pointer (some ⟨q, 0, none⟩)), Fact.eq (.pointer (some ⟨q, 1, none⟩)), Fact.eq (.int .i64 ea)].getD i Fact.no) (by kernel_rfl) (by kernel_rfl) rfl rfl rfl 12 2 rfl rfl rfl (by show (12 : Nat) < 13; decide) (by show (2 : Nat) < 13; decide) ?_ 95 _ _ rfl (by kernel_rfl) ?_
  · intro i hi
    obtain rfl | rfl | rfl | rfl | rfl | rfl | rfl | rfl | rfl : i = 0 ∨ i = 1 ∨ i = 2 ∨ i = 3 ∨ i = 4 ∨ i = 5 ∨ i = 6 ∨ i = 7 ∨ i = 8 := by omega
    · refine step_pure rfl fun A ww hb hw hf => ?_
      have e0 : A.tmps[0]?.getD undef = .pointer (some ⟨q, 0, none⟩) := gdv (hb.2.2 0 (by kernel_rfl))
      exact ⟨.pointer (some ⟨q, 0, none⟩), by simp [go_sem, e0], rfl⟩
    · refine step_pure rfl fun A ww hb hw hf => ?_
      have e0 : A.tmps[3]?.getD undef = .pointer (some ⟨q, 0, none⟩) := gdv (hf 0 3 (by kernel_rfl))
      exact ⟨.pointer (some ⟨q, 0, none⟩), by simp [go_sem, e0], rfl⟩
    · refine step_pure rfl fun A ww hb hw hf => ?_
      have e0 : A.tmps[4]?.getD undef = .pointer (some ⟨q, 0, none⟩) := gdv (hf 1 4 (by kernel_rfl))
      exact ⟨.pointer (some ⟨q, 0, none⟩), by simp [go_sem, e0], rfl⟩
    · refine step_pure rfl fun A ww hb hw hf => ?_
      have e0 : A.tmps[5]?.getD undef = .pointer (some ⟨q, 0, none⟩) := gdv (hf 2 5 (by kernel_rfl))
      have hc : ww.cell? ⟨q, 0, none⟩ = some (.slice a ls.length c) := cellq hw h0
      exact ⟨.slice a ls.length c, by simp [go_sem, e0, hc], rfl⟩
    · refine step_callv rfl 93 _ _ rfl (by kernel_rfl) fun A ww hb hw hf => ?_
      have e6 : A.tmps.getD 6 undef = .slice a ls.length c := hf 3 6 (by kernel_rfl)
      show Calls Tryz.prog 93 #[.slice none 0 0, A.tmps.getD 6 undef] ww _
      rw [e6]
      refine (appendShorts_any ww ww.heap.size (.slice none 0 0) [] (RowB.nil ww _) (Nat.le_refl _) g a c ls (H.up hw).r (H.up hw).g (by simp) H.n H.z).mono ?_
      rintro r w' ⟨x, rfl, R, n⟩
      exact ⟨x, rfl, n, R.base hw.size⟩
    · refine step_pure rfl fun A ww hb hw hf => ?_
      have e0 : A.tmps[0]?.getD undef = .pointer (some ⟨q, 0, none⟩) := gdv (hb.2.2 0 (by kernel_rfl))
      exact ⟨.pointer (some ⟨q, 0, none⟩), by simp [go_sem, e0], rfl⟩
    · refine step_pure rfl fun A ww hb hw hf => ?_
      have e0 : A.tmps[8]?.getD undef = .pointer (some ⟨q, 0, none⟩) := gdv (hf 5 8 (by kernel_rfl))
      exact ⟨.pointer (some ⟨q, 0, none⟩), by simp [go_sem, e0], rfl⟩
    · refine step_pure rfl fun A ww hb hw hf => ?_
      have e0 : A.tmps[9]?.getD undef = .pointer (some ⟨q, 0, none⟩) := gdv (hf 6 9 (by kernel_rfl))
      exact ⟨.pointer (some ⟨q, 1, none⟩), by simp [go_sem, e0], rfl⟩
    · refine step_pure rfl fun A ww hb hw hf => ?_
      have e0 : A.tmps[10]?.getD undef = .pointer (some ⟨q, 1, none⟩) := gdv (hf 7 10 (by kernel_rfl))
      have hc : ww.cell? ⟨q, 1, none⟩ = some (.int .i64 ea) := cellq hw h1
      exact ⟨.int .i64 ea, by simp [go_sem, e0, hc], rfl⟩
  intro A W hb hw hF
  have e7 : RowB W w.heap.size (A.tmps.getD 7 undef) (lsL ls) := hF 4 7 (by kernel_rfl) (by kernel_rfl)
  have e11 : A.tmps.getD 11 undef = .int .i64 ea := hF 8 11 (by kernel_rfl) (by kernel_rfl)
  show Calls Tryz.prog 95 #[A.tmps.getD 7 undef, A.tmps.getD 11 undef, .int .i64 1] W _
  rw [e11]
  refine (appendNumber_any W w.heap.size _ (lsL ls) e7 hw.size ea 1 (by decide) (by omega)).mono ?_
  rintro r w' ⟨x, rfl, R, n⟩
  refine ⟨x, rfl, fun vs e2 => ?_⟩
  have N := hw.trans n
  clear hb hF h0 h1 H e7 e11 n hw
  simp only [puts, e2, Act.put, List.setIfInBounds_toArray, List.set_cons_succ, List.set_cons_zero]
  go_wp2
  go_ret
  exact ⟨⟨_, rfl, R⟩, N⟩
end Go.Proofs.YtdnkgmlidhepbaaGreat
namespace Go.Proofs.YtdnkgmlidhepbaaGreat
open Go Go.RowKit
set_option maxHeartbeats 1000000 in
theorem l13Short_any (w : World) (l : Lst) (h : LstR w l) (hl : l.xs.length ≤ 255) :
    Calls Tryz.prog 64 #[.slice l.a l.xs.length l.c] w (BodP w ((l.xs.length : Int) :: l.xs)) := by
  obtain ⟨i0, hi, hz0, hz1, hz2⟩ := info_parts Tryz.info5
  have n0 : Below w.heap.size w (w.alloc (.cells #[.int .u8 (l.xs.length : Int)] 5)) := (Below.refl _ _).alloc (Nat.le_refl _) _
  obtain ⟨v1, w1, hap, R1, n1⟩ := append_any (P := Tryz.prog) (w.alloc (.cells #[.int .u8 (l.xs.length : Int)] 5)) 22 i0 Tryz.underlying22 hi hz0 hz1 hz2 w.heap.size w.heap.size _ _ (RowB.lit1 w (l.xs.length : Int)) l.g l.a l.c l.xs (h.up n0).r h.z (by simp; omega) (Nat.le_refl _) n0.size
  have N1 := n0.trans n1
  rw [List.cons_append, List.nil_append] at R1
  clear n0 n1 h
  go_enter Tryz.func64, Tryz.ntmps64
  go_wp2_with (at_builtin; refine Lib.wpList_append_run _ rfl _ _ 22 22 rfl _ _ rfl rfl _ _ hap ?_)
  go_ret
  exact ⟨⟨_, rfl, R1⟩, N1⟩
set_option maxHeartbeats 1000000 in
theorem l13Long_any (w : World) (l : Lst) (h : LstR w l) :
    Calls Tryz.prog 66 #[.slice l.a l.xs.length l.c] w (BodP w (loL l.xs)) := by
  obtain ⟨i0, hi, hz0, hz1, hz2⟩ := info_parts Tryz.info5
  have m := h.m
  have BG := hide (l1BigB_any w (l.xs.length : Int) 2 (by omega) (by omega) (by decide))
  go_enter Tryz.func66, Tryz.ntmps66
  go_wp2_with fail
  refine BG.out.mono ?_
  rintro r w1 ⟨rfl, R1, n1⟩
  obtain ⟨v2, w2, hap, R2, n2⟩ := append_any (P := Tryz.prog) w1 22 i0 Tryz.underlying22 hi hz0 hz1 hz2 w.heap.size w.heap.size _ _ R1 l.g l.a l.c l.xs (h.up n1).r h.z (by rw [bigL_len]; omega) (Nat.le_refl _) n1.size
  have N2 := n1.trans n2
  clear n1 n2 h BG R1
  go_wp2_with (at_builtin; refine Lib.wpList_append_run _ rfl _ _ 22 22 rfl _ _ rfl rfl _ _ hap ?_)
  go_ret
  exact ⟨⟨_, rfl, R2⟩, N2⟩
theorem LstR.of_row {w : World} {b : Nat} {v : Value} {xs : List Int} (R : RowB w b v xs) (m : xs.length ≤ 1048576) : ∃ l : Lst, v = .slice l.a l.xs.length l.c ∧ l.xs = xs ∧ LstR w l := by
  obtain ⟨a, c, g, e, r, z, _, _⟩ := R.rd
  refine ⟨⟨g, a, c, xs⟩, e, rfl, ⟨r, z, m, ?_⟩⟩
  by_cases h0 : 0 < xs.length
  · obtain ⟨off, ha, hc⟩ := r h0
    exact .inr (block_lt_of_cell (hc 0 h0))
  · exact .inl (by show xs.length = 0; omega)
set_option maxRecDepth 100000 in
set_option maxHeartbeats 1000000 in
theorem l13List_any (w : World) (g : Nat) (a : Option Addr) (c : Nat) (ls : List (List UInt8)) (H : TxsR w g a ls) (hs : ∀ l ∈ ls, l.length ≤ 255) :
    Calls Tryz.prog 65 #[.slice a ls.length c] w (BodP w (lsL ls)) := by
  obtain ⟨i0, hi, hz0, hz1, hz2⟩ := info_parts Tryz.info5
  have hn := H.n
  have SUM := hide (sh_sum ls 1048576 H.z)
  have HS := hide hs
  have n1 : Below w.heap.size w (w.alloc (.cells #[.int .u8 (ls.length : Int)] 5)) := (Below.refl _ _).alloc (Nat.le_refl _) _
  have R1 := RowB.lit1 w (ls.length : Int)
  clear hs
  go_enter Tryz.func65, Tryz.ntmps65
  go_wp2
  generalize w.alloc (.cells #[.int .u8 (ls.length : Int)] 5) = wa at *
  go_loopw [3, 4] (fun x i wr => ∃ k : Nat, k ≤ ls.length ∧ i = .int .i64 k ∧ RowB wr w.heap.size x ([(ls.length : Int)] ++ ((ls.map shL).take k).flatten) ∧ Below w.heap.size w wr) (fun _ i _ => ls.length - (intOf i).toNat)
  case atStart => exact ⟨0, Nat.zero_le _, rfl, by simpa using R1, n1⟩
  case round =>
    obtain ⟨k, hk, rfl, R, hN⟩ := hrel
    clear R1 n1
    by_cases hlt : k < ls.length
    · obtain ⟨off, ea, hc⟩ := (H.up hN).r (by omega)
      have t0 : (k : Int) < (ls.length : Int) := by omega
      have c1 := hc k hlt
      have ST := hide (sh_take ls k hlt)
      have z8 : (ls.getD k []).length ≤ 255 := HS.out _ (by rw [List.getD_eq_getElem?_getD, List.getElem?_eq_getElem hlt]; exact List.getElem_mem hlt)
      have SK : ([(ls.length : Int)] ++ ((ls.map shL).take k).flatten).length ≤ 1073741824 := by
        have := SUM.out k
        have : k * (1048576 + 1) ≤ 8 * (1048576 + 1) := Nat.mul_le_mul_right _ (by omega)
        simp only [List.length_append, List.length_cons, List.length_nil]
        omega
      subst ea
      clear hc SUM HS
      generalize ls.getD k [] = x at *
      simp only [tx] at c1
      obtain ⟨cv, w2, hcv, rb, cb, n2⟩ := convT wr x
      have N2 := nxt hN n2
      have tl := txL_len x
      have LX : LstR w2 ⟨wr.heap.size, some ⟨wr.heap.size, 0, none⟩, cv, txL x⟩ := ⟨rb, by simp, by show (txL x).length ≤ _; omega, by
        by_cases h0 : 0 < (txL x).length
        · obtain ⟨o, _, hc⟩ := rb h0
          exact .inr (block_lt_of_cell (hc 0 h0))
        · exact .inl (by show (txL x).length = 0; omega)⟩
      have CS : Hid (Calls Tryz.prog 64 #[.slice (some ⟨wr.heap.size, 0, none⟩) x.length cv] w2 (BodP w2 (shL x))) := by
        have C0 := l13Short_any w2 _ LX (by show (txL x).length ≤ 255; omega)
        show Calls _ _ _ _ _
        rw [shL_is x z8, ← tl]
        exact C0
      clear tl cb LX rb
      go_wp2_with (refine wpList_convT wr rfl 9 22 (.tmp 19) rfl _ rfl _ _ hcv ?_)
      refine CS.out.mono ?_
      rintro r w3 ⟨⟨v3, rfl, R3⟩, n3⟩
      obtain ⟨l3, e3, x3, L3⟩ := LstR.of_row R3 (by rw [shL_len]; omega)
      subst e3
      have RR := (R.up n2).up n3
      have N3 := nxt N2 n3
      obtain ⟨v4, w4, hap, R4, n4⟩ := append_any (P := Tryz.prog) w3 22 i0 Tryz.underlying22 hi hz0 hz1 hz2 w.heap.size w.heap.size _ _ RR l3.g l3.a l3.c l3.xs L3.r L3.z (by have := L3.m; omega) (Nat.le_refl _) N3.size
      rw [x3, List.append_assoc, ← ST.out] at R4
      have N4 := N3.trans n4
      clear CS n4 hN ST c1 R RR R3 N2 N3 n2 n3 L3 x3 hcv
      go_wp2_with (at_builtin; refine Lib.wpList_append_run _ rfl _ _ 22 22 rfl _ _ rfl rfl _ _ hap ?_)
      clear hap
      go_roundw
      case rel => exact ⟨k + 1, by omega, by go_num, R4, N4⟩
      case measure => simp [intOf]; omega
    · obtain rfl : k = ls.length := by omega
      rw [List.take_of_length_le (by simp)] at R
      clear H SUM
      go_wp2
      go_ret
      exact ⟨⟨_, rfl, R⟩, hN⟩
end Go.Proofs.YtdnkgmlidhepbaaGreat
namespace Go.Proofs.YtdnkgmlidhepbaaGreat
open Go Go.RowKit
def ctA (bs : List (List Int)) : Bool := bs.any fun b => ctO b.length
theorem ctA_yes {bs : List (List Int)} {k : Nat} (hk : k < bs.length) (h : ctO (bs.getD k []).length = true) : ctA bs = true := by
  unfold ctA
  rw [List.any_eq_true]
  refine ⟨bs.getD k [], ?_, h⟩
  rw [List.getD_eq_getElem?_getD, List.getElem?_eq_getElem hk]
  exact List.getElem_mem hk
theorem ctA_no {bs : List (List Int)} (h : ∀ j, j < bs.length → ctO (bs.getD j []).length = false) : ctA bs = false := by
  unfold ctA
  rw [List.any_eq_false]
  intro b hb
  obtain ⟨i, hi, e⟩ := List.getElem_of_mem hb
  have := h i hi
  rw [List.getD_eq_getElem?_getD, List.getElem?_eq_getElem hi] at this
  simpa [← e] using this
set_option maxHeartbeats 1000000 in
theorem certIndex_any (w : World) (g : Nat) (a : Option Addr) (c : Nat) (bs : List (List Int)) (ps : List Plb) (hr : RdL w g a bs ps) (hn : bs.length ≤ 1048576) (hz : ∀ i, i < bs.length → (bs.getD i []).length ≤ 1048576) :
    Calls Tryz.prog 135 #[.slice a bs.length c, .func (Fn.func 133) #[] #[]] w fun e w' => ∃ r : Int, e = .returned (.int .i64 r) ∧ decide (0 ≤ r) = ctA bs ∧ Below w.heap.size w w' := by
  go_enter Tryz.func135, Tryz.ntmps135
  go_wp2
  go_loopw [8] (fun i wr => ∃ (k : Nat), k ≤ bs.length ∧ i = .int .i64 k ∧ Below w.heap.size w wr ∧ ∀ j, j < k → ctO (bs.getD j []).length = false) (fun i _ => bs.length - (intOf i).toNat)
  case atStart => exact ⟨0, Nat.zero_le _, rfl, Below.refl _ _, fun j hj => absurd hj (by omega)⟩
  case round =>
    obtain ⟨k, hk, rfl, N, hall⟩ := hrel
    by_cases hlt : k < bs.length
    · obtain ⟨off, rfl, hc⟩ := (hr.up N).r (by omega)
      have t0 : (k : Int) < (bs.length : Int) := by omega
      have c1 := hc k hlt
      have CO := hide (certOut_any wr (ps.getD k plb0).a (ps.getD k plb0).c (bs.getD k []).length (hz k hlt))
      have YES := hide (fun h => ctA_yes hlt h)
      have HALL := hide hall
      have HN := hide N
      clear hc hall N
      generalize (ps.getD k plb0).a = pa at *
      generalize (ps.getD k plb0).c = pc at *
      generalize hx : (bs.getD k []).length = x at *
      have HX := hide hx
      clear hx
      generalize hv : ctO x = v at *
      have HV := hide hv
      clear hv
      go_wp2_with fail
      refine CO.out.mono ?_
      rintro e w1 ⟨rfl, n1⟩
      have N1 := hide (nxt HN.out n1)
      clear CO n1 HN
      cases v with
      | true =>
        have Y := hide (YES.out (by first | rfl | exact HV.out))
        clear YES HALL
        go_wp2
        go_ret
        exact ⟨_, rfl, by rw [Y.out]; simp, N1.out⟩
      | false =>
        have NXT : Hid (∀ j, j < k + 1 → ctO (bs.getD j []).length = false) := fun j hj => by
          by_cases h : j = k
          · subst h
            rw [HX.out]
            exact HV.out
          · exact HALL.out j (by omega)
        clear YES HALL
        go_wp2
        go_roundw
        case rel => exact ⟨k + 1, by omega, by go_num, N1.out, NXT.out⟩
        case measure => simp [intOf]; omega
    · obtain rfl : k = bs.length := by omega
      have NO := hide (ctA_no hall)
      have HN := hide N
      clear hall hr N
      go_wp2
      go_ret
      exact ⟨-1, rfl, by rw [NO.out]; rfl, HN.out⟩
theorem certContains_any (w : World) (g : Nat) (a : Option Addr) (c : Nat) (bs : List (List Int)) (ps : List Plb) (hr : RdL w g a bs ps) (hn : bs.length ≤ 1048576) (hz : ∀ i, i < bs.length → (bs.getD i []).length ≤ 1048576) :
    Calls Tryz.prog 134 #[.slice a bs.length c, .func (Fn.func 133) #[] #[]] w fun e w' => e = .returned (.bool (ctA bs)) ∧ Below w.heap.size w w' := by
  have IX := hide (certIndex_any w g a c bs ps hr hn hz)
  clear hr hz
  generalize ctA bs = v at *
  go_enter Tryz.func134, Tryz.ntmps134
  go_wp2_with fail
  refine IX.out.mono ?_
  rintro e w1 ⟨r, rfl, hr, n1⟩
  have HR := hide hr
  have N1 := hide n1
  clear hr n1 IX
  go_wp2
  go_ret
  exact ⟨by rw [← HR.out]; rfl, N1.out⟩
def ceF (bs : List (List Int)) : Int := if bs.length = 0 then 8 else if 4 < bs.length then 8 else if ctA bs = true then 8 else 0
set_option maxHeartbeats 1000000 in
theorem certsFault_any (w : World) (q g : Nat) (a : Option Addr) (c : Nat) (bs : List (List Int)) (ps : List Plb) (hr : RdL w g a bs ps) (hn : bs.length ≤ 1048576) (hz : ∀ i, i < bs.length → (bs.getD i []).length ≤ 1048576) (h0 : w.cell? ⟨q, 0, none⟩ = some (.slice a bs.length c)) :
    Calls Tryz.prog 130 #[.pointer (some ⟨q, 0, none⟩)] w fun x w' => x = .returned (.int .i64 (ceF bs)) ∧ Below w.heap.size w w' := by
  have E := hide (show ceF bs = if bs.length = 0 then 8 else if 4 < bs.length then 8 else if ctA bs = true then 8 else 0 from rfl)
  have CC := hide (certContains_any w g a c bs ps hr hn hz)
  clear hr hz
  generalize ceF bs = f at *
  generalize ctA bs = v at *
  by_cases k0 : bs.length = 0
  · have EF : f = 8 := by rw [E.out, if_pos k0]
    subst EF
    have e0 : ((bs.length : Int) == 0) = true := by simp [k0]
    clear E CC k0
    go_enter Tryz.func130, Tryz.ntmps130
    go_wp2
    go_ret
    exact ⟨rfl, Below.refl _ _⟩
  · have e0 : ((bs.length : Int) == 0) = false := by rw [beq_eq_false_iff_ne]; omega
    by_cases k1 : 4 < bs.length
    · have EF : f = 8 := by rw [E.out, if_neg k0, if_pos k1]
      subst EF
      have d1 : decide ((4 : Int) < (bs.length : Int)) = true := by simp; omega
      clear E CC
      go_enter Tryz.func130, Tryz.ntmps130
      go_wp2
      go_ret
      exact ⟨rfl, Below.refl _ _⟩
    · have EF := hide (show f = if v = true then 8 else 0 by rw [E.out, if_neg k0, if_neg k1])
      have d1 : decide ((4 : Int) < (bs.length : Int)) = false := by simp; omega
      clear E
      go_enter Tryz.func130, Tryz.ntmps130
      go_wp2_with fail
      refine CC.out.mono ?_
      rintro e w1 ⟨rfl, n1⟩
      cases v with
      | false =>
        go_wp2
        go_ret
        exact ⟨by rw [EF.out]; rfl, n1⟩
      | true =>
        go_wp2
        go_ret
        exact ⟨by rw [EF.out]; rfl, n1⟩
end Go.Proofs.YtdnkgmlidhepbaaGreat
namespace Go.Proofs.YtdnkgmlidhepbaaGreat
open Go Go.RowKit
structure Oth (q : Nat) (w w' : World) : Prop where
  os : w'.os = w.os
  tape : w'.tape = w.tape
  output : w'.output = w.output
  size : w.heap.size ≤ w'.heap.size
  block : ∀ k, k < w.heap.size → k ≠ q → w'.heap[k]? = w.heap[k]?
theorem Oth.refl (q : Nat) (w : World) : Oth q w w := ⟨rfl, rfl, rfl, Nat.le_refl _, fun _ _ _ => rfl⟩
theorem Oth.trans {q : Nat} {a b c : World} (h : Oth q a b) (k : Oth q b c) : Oth q a c :=
  ⟨k.os.trans h.os, k.tape.trans h.tape, k.output.trans h.output, Nat.le_trans h.size k.size, fun i hi hn => (k.block i (Nat.lt_of_lt_of_le hi h.size) hn).trans (h.block i hi hn)⟩
theorem Oth.of {q : Nat} {w w' : World} (h : Below w.heap.size w w') : Oth q w w' := ⟨h.os, h.tape, h.output, h.size, fun k hk _ => h.block k hk⟩
theorem Oth.alloc {q : Nat} {a w : World} (h : Oth q a w) (o : Obj) : Oth q a (w.alloc o) := h.trans (Oth.of ((Below.refl _ _).alloc (Nat.le_refl _) o))
theorem Oth.drew {q : Nat} {a w : World} (h : Oth q a w) : Oth q a w.drew := ⟨h.os, h.tape, h.output, h.size, h.block⟩
theorem Oth.setCell {q : Nat} {a w : World} (h : Oth q a w) (i : Nat) (v : Value) : Oth q a (w.setCell ⟨q, i, none⟩ v) :=
  h.trans ⟨rfl, rfl, rfl, by simp [World.setCell], fun k _ hk => Below.heap_setCell _ _ _ _ hk⟩
theorem Oth.below {q B : Nat} {w w' : World} (h : Oth q w w') (hq : B ≤ q) (hB : B ≤ w.heap.size) : Below B w w' := ⟨h.os, h.tape, h.output, h.size, fun k hk => h.block k (by omega) (by omega)⟩
section
variable (w : World) (q : Nat) (t : TypeId) (us : List Value) (u0 u1 u2 u3 u4 u5 u6 u7 u8 : Value) (k v ag ea : Int) (a2 a3 a5 a6 a9 a11 a12 : Option Addr) (n2 n3 n5 n6 n9 n11 n12 c2 c3 c5 c6 c9 c11 c12 : Nat) (ho : ByteArray) (rs : Bool)
end
end Go.Proofs.YtdnkgmlidhepbaaGreat
namespace Go.Proofs.YtdnkgmlidhepbaaGreat
open Go Go.RowKit
section
variable (w : World) (q : Nat) (t : TypeId) (us : List Value) (u0 u1 u2 u3 u4 u5 u6 u7 u8 : Value) (k v ag ea : Int) (a2 a3 a5 a6 a9 a11 a12 : Option Addr) (n2 n3 n5 n6 n9 n11 n12 c2 c3 c5 c6 c9 c11 c12 : Nat) (ho : ByteArray) (rs : Bool)
end
end Go.Proofs.YtdnkgmlidhepbaaGreat
