import Derived.Test.YtmmbkkfjiaoeiaaGreatGV8
import Derived.Test.YtmmbkkfjiaoeiaaGreatGV7
import Derived.Test.YtmmbkkfjiaoeiaaGreatGV5
import Derived.Test.YtmmbkkfjiaoeiaaGreatGV2
import Derived.Test.YtmmbkkfjiaoeiaaGreatGV1
import Derived.Maps.AppendAt
import Derived.Deep.Cut
namespace Go.Proofs.YtmmbkkfjiaoeiaaGreat
open Go Go.RowKit
def bdL (t:List Int) (ag ea:Int) (b:List Int):List Int:=if t.length=0 then [] else bigL ag 4 ++ (bigL ea 1 ++ b)
def heL (v:Int) (r s:List Int) (ho:List UInt8) (pr:List (List UInt8)) (t:List Int) (ag ea:Int) (b:List Int):List Int:=fpL v r s ++ (shL ho ++ (lsL pr ++ (loL t ++ bdL t ag ea b)))
set_option maxHeartbeats 4000000 in
theorem helloBody_any (w:World) (q:Nat) (v:Int) (l1 l2 l3 l4:Lst) (ho:List UInt8) (g:Nat) (a:Option Addr) (c:Nat) (ls:List (List UInt8)) (ag ea:Int)
  (h0:w.cell? ⟨q,0,none⟩=some (.int .i64 v)) (h1:w.cell? ⟨q,1,none⟩=some (.slice l1.a l1.xs.length l1.c)) (h2:w.cell? ⟨q,2,none⟩=some (.slice l2.a l2.xs.length l2.c)) (h3:w.cell? ⟨q,3,none⟩=some (.string ⟨⟨ho⟩⟩)) (h4:w.cell? ⟨q,4,none⟩=some (.slice a ls.length c))
  (h5:w.cell? ⟨q,5,none⟩=some (.slice l3.a l3.xs.length l3.c)) (h6:w.cell? ⟨q,6,none⟩=some (.int .i64 ag)) (h7:w.cell? ⟨q,7,none⟩=some (.int .i64 ea)) (h8:w.cell? ⟨q,8,none⟩=some (.slice l4.a l4.xs.length l4.c))
  (H1:LstR w l1) (H2:LstR w l2) (H3:LstR w l3) (H4:LstR w l4) (H:TxsR w g a ls) (hh:ho.length≤1048576) :
  Calls Tryz.prog 87 #[.pointer (some ⟨q,0,none⟩)] w (BodP w (heL v l1.xs l2.xs ho ls l3.xs ag ea l4.xs)):=by
 obtain ⟨i0,hi,hz0,hz1,hz2⟩:=info_parts Tryz.info5
 have e1:=fpL_len v l1.xs l2.xs
 have m1:=H1.m
 have m2:=H2.m
 have m3:=H3.m
 have m4:=H4.m
 have lf:(fpL v l1.xs l2.xs).length≤2097153:=by omega
 have lt:=shL_len ho
 have ll:=lsL_len ls H.n H.z
 have l3l:=loL_len l3.xs
 have EE:=hide (show heL v l1.xs l2.xs ho ls l3.xs ag ea l4.xs=fpL v l1.xs l2.xs ++ (shL ho ++ (lsL ls ++ (loL l3.xs ++ bdL l3.xs ag ea l4.xs))) from rfl)
 clear e1 m1 m2
 generalize heL v l1.xs l2.xs ho ls l3.xs ag ea l4.xs=out at *
 go_enter Tryz.func87,Tryz.ntmps87
 go_upto_region 1 with fail
 refine region_callA 8 _ _ (fun i=>[Fact.eq (.pointer (some ⟨q,0,none⟩)),Fact.eq (.pointer (some ⟨q,0,none⟩)),Fact.eq (.pointer (some ⟨q,0,none⟩)),RBf w.heap.size (fpL v l1.xs l2.xs),Fact.eq (.pointer (some ⟨q,0,none⟩)),Fact.eq (.pointer (some ⟨q,0,none⟩)),Fact.eq (.pointer (some ⟨q,3,none⟩)),Fact.eq (.string ⟨⟨ho⟩⟩)].getD i Fact.no) (by kernel_rfl) (by kernel_rfl) rfl rfl rfl 12 3 rfl rfl rfl (by show (12:Nat) < 50;decide) (by show (3:Nat) < 50;decide) ?_ 91 _ _ rfl (by kernel_rfl) ?_
 ·intro i hi
  obtain rfl | rfl | rfl | rfl | rfl | rfl | rfl | rfl:i=0∨i=1∨i=2∨i=3∨i=4∨i=5∨i=6∨i=7:=by omega
  ·refine step_pure rfl fun A ww hb hw hf => ?_
   have e0:A.tmps[0]?.getD undef = .pointer (some ⟨q,0,none⟩):=gdv (hb.2.2 0 (by kernel_rfl))
   exact ⟨.pointer (some ⟨q,0,none⟩),by simp [go_sem,e0],rfl⟩
  ·refine step_pure rfl fun A ww hb hw hf => ?_
   have e0:A.tmps[4]?.getD undef = .pointer (some ⟨q,0,none⟩):=gdv (hf 0 4 (by kernel_rfl))
   exact ⟨.pointer (some ⟨q,0,none⟩),by simp [go_sem,e0],rfl⟩
  ·refine step_pure rfl fun A ww hb hw hf => ?_
   have e0:A.tmps[5]?.getD undef = .pointer (some ⟨q,0,none⟩):=gdv (hf 1 5 (by kernel_rfl))
   exact ⟨.pointer (some ⟨q,0,none⟩),by simp [go_sem,e0],rfl⟩
  ·refine step_callv rfl 92 _ _ rfl (by kernel_rfl) fun A ww hb hw hf => ?_
   have e6:A.tmps.getD 6 undef = .pointer (some ⟨q,0,none⟩):=hf 2 6 (by kernel_rfl)
   show Calls Tryz.prog 92 #[A.tmps.getD 6 undef] ww _
   rw [e6]
   refine (firstBody_any ww q v l1 l2 (cellq hw h0) (cellq hw h1) (cellq hw h2) (H1.up hw).r (H2.up hw).r H1.z H2.z H1.m H2.m).mono ?_
   rintro r w' ⟨⟨x,rfl,R⟩,n⟩
   exact ⟨x,rfl,n,R.base hw.size⟩
  ·refine step_pure rfl fun A ww hb hw hf => ?_
   have e0:A.tmps[0]?.getD undef = .pointer (some ⟨q,0,none⟩):=gdv (hb.2.2 0 (by kernel_rfl))
   exact ⟨.pointer (some ⟨q,0,none⟩),by simp [go_sem,e0],rfl⟩
  ·refine step_pure rfl fun A ww hb hw hf => ?_
   have e0:A.tmps[8]?.getD undef = .pointer (some ⟨q,0,none⟩):=gdv (hf 4 8 (by kernel_rfl))
   exact ⟨.pointer (some ⟨q,0,none⟩),by simp [go_sem,e0],rfl⟩
  ·refine step_pure rfl fun A ww hb hw hf => ?_
   have e0:A.tmps[9]?.getD undef = .pointer (some ⟨q,0,none⟩):=gdv (hf 5 9 (by kernel_rfl))
   exact ⟨.pointer (some ⟨q,3,none⟩),by simp [go_sem,e0],rfl⟩
  ·refine step_pure rfl fun A ww hb hw hf => ?_
   have e0:A.tmps[10]?.getD undef = .pointer (some ⟨q,3,none⟩):=gdv (hf 6 10 (by kernel_rfl))
   have hc:ww.cell? ⟨q,3,none⟩=some (.string ⟨⟨ho⟩⟩):=cellq hw h3
   exact ⟨.string ⟨⟨ho⟩⟩,by simp [go_sem,e0,hc],rfl⟩
 intro A W hb hw hF
 have e7:RowB W w.heap.size (A.tmps.getD 7 undef) (fpL v l1.xs l2.xs):=hF 3 7 (by kernel_rfl) (by kernel_rfl)
 have e11:A.tmps.getD 11 undef = .string ⟨⟨ho⟩⟩:=hF 7 11 (by kernel_rfl) (by kernel_rfl)
 show Calls Tryz.prog 91 #[A.tmps.getD 7 undef,A.tmps.getD 11 undef] W _
 rw [e11]
 refine (appendShort_any W w.heap.size _ (fpL v l1.xs l2.xs) e7 hw.size ho (by omega) hh).mono ?_
 rintro r w1 ⟨x1,rfl,R1,n1⟩
 refine ⟨x1,rfl,fun vs e2=>?_⟩
 have N1:=hw.trans n1
 clear hb hF h0 h1 h2 h3 e7 e11 n1 hw H1 H2
 simp only [puts,e2,Act.put,List.setIfInBounds_toArray,List.set_cons_succ,List.set_cons_zero]
 -- the protocols
 have k4:=cellq N1 h4
 have C2:=hide (appendShorts_any w1 w.heap.size x1 _ R1 N1.size g a c ls (H.up N1).r H.g (by rw [List.length_append];omega) H.n H.z)
 clear R1 h4 H
 go_wp2_with fail
 refine C2.out.mono ?_
 rintro r w2 ⟨x2,rfl,R2,n2⟩
 have N2:=N1.trans n2
 clear N1 n2 C2 k4
 -- the ticket
 have k5:=cellq N2 h5
 have C3:=hide (appendLong_any w2 w.heap.size x2 _ R2 N2.size l3.g l3.a l3.c l3.xs (H3.up N2).r H3.z H3.g (by rw [List.length_append,List.length_append];omega) H3.m)
 clear R2
 go_wp2_with fail
 refine C3.out.mono ?_
 rintro r w3 ⟨x3,rfl,R3,n3⟩
 have N3:=N2.trans n3
 clear N2 n3 C3 k5
 replace h5:=cellq N3 h5
 by_cases t0:l3.xs.length=0
 ·have d0 : ((l3.xs.length : Int) == 0) = true := beq_iff_eq.2 (by omega)
  have ER:out=fpL v l1.xs l2.xs ++ shL ho ++ lsL ls ++ loL l3.xs:=by
   rw [EE.out,bdL,if_pos t0]
   simp only [List.append_nil,List.append_assoc]
  rw [← ER] at R3
  clear ER EE
  go_wp2
  go_ret
  exact ⟨⟨_,rfl,R3⟩,N3⟩
 ·have d0 : ((l3.xs.length : Int) == 0) = false := beq_eq_false_iff_ne.2 (by omega)
  have k6:=cellq N3 h6
  have b4:=bigL_len ag 4
  have b1:=bigL_len ea 1
  have C4:=hide (appendNumber_any w3 w.heap.size x3 _ R3 N3.size ag 4 (by decide) (by simp only [List.length_append];omega))
  clear R3
  go_wp2_with fail
  refine C4.out.mono ?_
  rintro r w4 ⟨x4,rfl,R4,n4⟩
  have N4:=N3.trans n4
  clear n4 C4 k6 h5 h6
  have k7:=cellq N4 h7
  have C5:=hide (appendNumber_any w4 w.heap.size x4 _ R4 N4.size ea 1 (by decide) (by simp only [List.length_append];omega))
  clear R4
  go_wp2_with fail
  refine C5.out.mono ?_
  rintro r w5 ⟨x5,rfl,R5,n5⟩
  have N5:=N4.trans n5
  clear N4 n5 C5 k7 h7
  have k8:=cellq N5 h8
  obtain ⟨x6,w6,hap,R6,n6⟩:=append_any (P:=Tryz.prog) w5 22 i0 Tryz.underlying22 hi hz0 hz1 hz2 w.heap.size w.heap.size _ _ R5 l4.g l4.a l4.c l4.xs (H4.up N5).r H4.z (by simp only [List.length_append];omega) (Nat.le_refl _) N5.size
  have N6:=N5.trans n6
  have ER:out=fpL v l1.xs l2.xs ++ shL ho ++ lsL ls ++ loL l3.xs ++ bigL ag 4 ++ bigL ea 1 ++ l4.xs:=by
   rw [EE.out,bdL,if_neg t0]
   simp only [List.append_assoc]
  rw [← ER] at R6
  clear ER EE R5 n6 N5 N3 H3 H4
  go_wp2_with (at_builtin;refine Lib.wpList_append_run _ rfl _ _ 22 22 rfl _ _ rfl rfl _ _ hap ?_)
  go_ret
  exact ⟨⟨_,rfl,R6⟩,N6⟩
end Go.Proofs.YtmmbkkfjiaoeiaaGreat
namespace Go.Proofs.YtmmbkkfjiaoeiaaGreat
open Go Go.RowKit
theorem rowBl:∃ d,Tryz.prog.underlying 52=some d∧d.isRow=true:=⟨_,Tryz.underlying52,rfl⟩
structure CtsR (w:World) (g:Nat) (a:Option Addr) (bs:List (List Int)) (ps:List Plb):Prop where
 r:RdL w g a bs ps
 n:bs.length≤4
 z:∀ i,i < bs.length→(bs.getD i []).length≤1048576
 y:∀ i,i < bs.length→(ps.getD i plb0).a=none→(ps.getD i plb0).c=0
 q:∀ i,i < bs.length→(bs.getD i []).length=0∨(ps.getD i plb0).q < w.heap.size
theorem CtsR.up {w w':World} {g:Nat} {a:Option Addr} {bs:List (List Int)} {ps:List Plb} (h:CtsR w g a bs ps) (n:Below w.heap.size w w'):CtsR w' g a bs ps:=⟨h.r.up n,h.n,h.z,h.y,fun i hi=>(h.q i hi).imp id fun x=>Nat.lt_of_lt_of_le x n.size⟩
theorem lo_take (bs:List (List Int)) (k:Nat) (h:k < bs.length):((bs.map loL).take (k+1)).flatten=((bs.map loL).take k).flatten ++ loL (bs.getD k []):=by
 rw [List.take_add_one]
 simp [h]
theorem lo_sum (bs:List (List Int)) (B:Nat) (hz:∀ i,i < bs.length→(bs.getD i []).length≤B) (k:Nat):((bs.map loL).take k).flatten.length≤k*(B+2):=by
  induction k with
  | zero=>simp
  | succ k ih =>
    by_cases h:k < bs.length
    · rw [lo_take bs k h, List.length_append, loL_len, Nat.succ_mul]
      have:=hz k h
      omega
    · rw [List.take_of_length_le (by simp; omega)]
      rw [List.take_of_length_le (by simp;omega)] at ih
      rw [Nat.succ_mul]
      omega
set_option maxHeartbeats 2000000 in
theorem certsBody_any (w : World) (q g : Nat) (a : Option Addr) (c : Nat) (bs : List (List Int)) (ps : List Plb) (h0 : w.cell? ⟨q, 0, none⟩ = some (.slice a bs.length c)) (H : CtsR w g a bs ps) :
  Calls Tryz.prog 129 #[.pointer (some ⟨q,0,none⟩)] w (BodP w (clL bs)):=by
 obtain ⟨i0,hi,hz0,hz1,hz2⟩:=info_parts Tryz.info5
 obtain ⟨dB,hdB,hrowB⟩:=rowBl
 have SUM:=hide (lo_sum bs 1048576 H.z)
 have hn:=H.n
 have n1:Below w.heap.size w (w.alloc (.cells #[.int .u8 (bs.length:Int)] 5)):=(Below.refl _ _).alloc (Nat.le_refl _) _
 have R1:=RowB.lit1 w (bs.length:Int)
 have k0:=cellq n1 h0
 go_enter Tryz.func129,Tryz.ntmps129
 go_wp2
 generalize w.alloc (.cells #[.int .u8 (bs.length:Int)] 5)=wa at *
 go_loopw [3,5,18] (fun x _ i wr=>∃ k:Nat,k≤bs.length∧i = .int .i64 k∧RowB wr w.heap.size x ([(bs.length:Int)] ++ ((bs.map loL).take k).flatten)∧Below w.heap.size w wr) (fun _ _ i _=>bs.length - (intOf i).toNat)
 case atStart=>exact ⟨0,Nat.zero_le _,rfl,by simpa using R1,n1⟩
 case round =>
  obtain ⟨k,hk,rfl,R,hN⟩:=hrel
  clear R1 n1 k0
  by_cases hlt:k < bs.length
  ·have HW := H.up hN
   obtain ⟨off,ea,hc⟩:=HW.r.r (by omega)
   subst ea
   have t0:(k:Int) < (bs.length:Int):=by omega
   have c1:=hc k hlt
   have rb:=HW.r.b k hlt
   have ST:=hide (lo_take bs k hlt)
   have zk:=H.z k hlt
   have yk:=H.y k hlt
   have qk:=H.q k hlt
   have SK:([(bs.length:Int)] ++ ((bs.map loL).take k).flatten).length≤1073741824:=by
    have:=SUM.out k
    have:k*(1048576+2)≤4*(1048576+2):=Nat.mul_le_mul_right _ (by omega)
    simp only [List.length_append,List.length_cons,List.length_nil]
    omega
   have RG:wr.rangeAt g (off+k) [.slice (ps.getD k plb0).a (bs.getD k []).length (ps.getD k plb0).c]:=fun j v hj=>by
    match j,hj with
    | 0,hj=>simp at hj;subst hj;exact c1
   clear hc HW SUM
   generalize bs.getD k []=y at *
   generalize ps.getD k plb0=p at *
   have nA:Below wr.heap.size wr (wr.alloc (.cells #[.slice p.a y.length p.c] 52)):=(Below.refl _ _).alloc (Nat.le_refl _) _
   have NA:Below w.heap.size w (wr.alloc (.cells #[.slice p.a y.length p.c] 52)):=hN.trans (nA.mono hN.size)
   have CL:=hide (appendLong_any _ w.heap.size _ _ (R.up nA) NA.size p.q p.a p.c y (rb.up nA) yk qk SK zk)
   go_wp2_with fail
   refine CL.out.mono ?_
   rintro r w4 ⟨v4,rfl,R4,n4⟩
   rw [List.append_assoc,← ST.out] at R4
   have N4:=NA.trans n4
   clear CL n4 hN ST c1 nA NA RG rb R H
   go_wp2
   go_roundw
   case rel=>exact ⟨k+1,by omega,by go_num,R4,N4⟩
   case measure=>simp [intOf];omega
  ·obtain rfl : k = bs.length := by omega
   rw [List.take_of_length_le (by simp)] at R
   clear H SUM
   go_wp2
   go_ret
   exact ⟨⟨_,rfl,R⟩,hN⟩
end Go.Proofs.YtmmbkkfjiaoeiaaGreat
namespace Go.Proofs.YtmmbkkfjiaoeiaaGreat
open Go Go.RowKit
def enL (k:Int) (b:List Int):List Int:=[k] ++ bigL (b.length:Int) 3 ++ b
set_option maxRecDepth 100000 in
set_option maxHeartbeats 1000000 in
theorem encHello (w:World) (vs:Array Value) (x1 x2 x3 x4 x5 x6 x7 x8 x9 x10 x11 x12:Value) (hv:vs = #[.int .i64 1,x1,x2,x3,x4,x5,x6,x7,x8,x9,x10,x11,x12]) (s:Bool) (fs:List Value) (f:Int) (bl:List Int) (hb:f=0→bl.length≤536870912)
  (TO:∀ W,Below w.heap.size w W→Calls Tryz.prog 16 #[.agg vs] W (TyP W s 72 76 fs f))
  (BD:∀ W q,Below w.heap.size w W→RwC W q fs 76→s=true→f=0→Calls Tryz.prog 87 #[.pointer (some ⟨q,0,none⟩)] W (BodP W bl)) :
  Calls Tryz.prog 5 #[.agg vs] w (BodP w (if s=true∧f=0 then enL 1 bl else [])):=by
 subst hv
 obtain ⟨out,ho⟩:∃ l,l=(if s=true∧f=0 then enL 1 bl else []):=⟨_,rfl⟩
 rw [← ho]
 have HO:=hide ho
 clear ho
 obtain ⟨i0,hi,hz0,hz1,hz2⟩:=info_parts Tryz.info5
 have n0:Below w.heap.size w (w.alloc (.cells #[.int .i64 1,x1,x2,x3,x4,x5,x6,x7,x8,x9,x10,x11,x12] 26)):=(Below.refl _ _).alloc (Nat.le_refl _) _
 have CC:=hide (TO _ n0)
 have RW:=RwC.new w [.int .i64 1,x1,x2,x3,x4,x5,x6,x7,x8,x9,x10,x11,x12] 26
 have RG:=RwC.range RW
 obtain ⟨d13,hd13,hrow13⟩:=rowM
 have N0:=hide n0
 have BH:=hide BD
 clear TO n0 BD
 go_enter Tryz.func5,Tryz.ntmps5
 go_wp2_with fail
 refine CC.out.mono ?_
 rintro e w1 ⟨h | h,n1⟩
 ·obtain ⟨rfl, rfl⟩ := h
  have eo:Hid (out=[]):=by show _=_;rw [HO.out,if_neg (by simp)]
  have N1:=nxt N0.out n1
  clear CC RG RW BH n1
  go_wp2
  go_ret
  exact ⟨⟨_,rfl,by rw [eo.out];exact RowB.nil _ _⟩,N1⟩
 obtain ⟨rfl,q,rfl,hq,RQ⟩:=h
 have N1:=nxt N0.out n1
 by_cases f0:f=0
 rotate_left
 ·have eo : Hid (out = []) := by show _ = _; rw [HO.out, if_neg (fun h => f0 h.2)]
  have d0:(f == 0)=false:=beq_eq_false_iff_ne.2 f0
  clear CC RG RW BH n1 RQ
  go_wp2
  go_ret
  exact ⟨⟨_,rfl,by rw [eo.out];exact RowB.nil _ _⟩,N1⟩
 subst f0
 replace hb:=hb rfl
 have eo:Hid (out=enL 1 bl):=by show _=_;rw [HO.out,if_pos ⟨rfl,rfl⟩]
 have c0:w1.cell? ⟨w.heap.size,0,none⟩=some (.int .i64 1):=(RW.up n1).cell 0
 have CB:=hide (BH.out w1 q N1 RQ rfl rfl)
 clear CC RG RW BH n1 RQ hq
 go_wp2_with fail
 refine CB.out.mono ?_
 rintro e w2 ⟨⟨v2,rfl,R2⟩,n2⟩
 have N2:=nxt N1 n2
 have c2:=cellq n2 c0
 obtain ⟨a2,k2,g2,rfl,r2,z2,_,_⟩:=R2.rd
 have n3:Below w2.heap.size w2 (w2.alloc (.cells #[.int .u8 1] 5)):=(Below.refl _ _).alloc (Nat.le_refl _) _
 have C4:=hide (appendNumber_any _ w2.heap.size _ _ (RowB.lit1 w2 1) n3.size (bl.length:Int) 3 (by decide) (by simp))
 have N3:=hide n3
 clear CB R2 n2 c0 N1 n3
 go_wp2_with fail
 refine C4.out.mono ?_
 rintro e w4 ⟨v4,rfl,R4,n4⟩
 have N4:Below w2.heap.size w2 w4:=N3.out.trans n4
 obtain ⟨v5,w5,hap,R5,n5⟩:=append_any (P:=Tryz.prog) w4 22 i0 Tryz.underlying22 hi hz0 hz1 hz2 w2.heap.size w2.heap.size _ _ R4 g2 a2 k2 bl (r2.up N4) z2 (by simp [bigL_len];omega) (Nat.le_refl _) N4.size
 have N5:=nxt N2 (N4.trans n5)
 have S2:=N2.size
 have R6:=R5.base S2
 clear C4 R4 R5 n4 n5 N4 N3 r2 c2 S2
 go_wp2_with (at_builtin;refine Lib.wpList_append_run _ rfl _ _ 22 22 rfl _ _ rfl rfl _ _ hap ?_)
 go_ret
 exact ⟨⟨_,rfl,by rw [eo.out];exact R6⟩,N5⟩
set_option maxRecDepth 100000 in
set_option maxHeartbeats 1000000 in
theorem encAnswer (w:World) (vs:Array Value) (x1 x2 x3 x4 x5 x6 x7 x8 x9 x10 x11 x12:Value) (hv:vs = #[.int .i64 2,x1,x2,x3,x4,x5,x6,x7,x8,x9,x10,x11,x12]) (s:Bool) (fs:List Value) (f:Int) (bl:List Int) (hb:f=0→bl.length≤536870912)
  (TO:∀ W,Below w.heap.size w W→Calls Tryz.prog 16 #[.agg vs] W (TyP W s 77 79 fs f))
  (BD:∀ W q,Below w.heap.size w W→RwC W q fs 79→s=true→f=0→Calls Tryz.prog 114 #[.pointer (some ⟨q,0,none⟩)] W (BodP W bl)) :
  Calls Tryz.prog 5 #[.agg vs] w (BodP w (if s=true∧f=0 then enL 2 bl else [])):=by
 subst hv
 obtain ⟨out,ho⟩:∃ l,l=(if s=true∧f=0 then enL 2 bl else []):=⟨_,rfl⟩
 rw [← ho]
 have HO:=hide ho
 clear ho
 obtain ⟨i0,hi,hz0,hz1,hz2⟩:=info_parts Tryz.info5
 have n0:Below w.heap.size w (w.alloc (.cells #[.int .i64 2,x1,x2,x3,x4,x5,x6,x7,x8,x9,x10,x11,x12] 26)):=(Below.refl _ _).alloc (Nat.le_refl _) _
 have CC:=hide (TO _ n0)
 have RW:=RwC.new w [.int .i64 2,x1,x2,x3,x4,x5,x6,x7,x8,x9,x10,x11,x12] 26
 have RG:=RwC.range RW
 obtain ⟨d13,hd13,hrow13⟩:=rowM
 have N0:=hide n0
 have BH:=hide BD
 clear TO n0 BD
 go_enter Tryz.func5,Tryz.ntmps5
 go_wp2_with fail
 refine CC.out.mono ?_
 rintro e w1 ⟨h | h,n1⟩
 ·obtain ⟨rfl, rfl⟩ := h
  have eo:Hid (out=[]):=by show _=_;rw [HO.out,if_neg (by simp)]
  have N1:=nxt N0.out n1
  clear CC RG RW BH n1
  go_wp2
  go_ret
  exact ⟨⟨_,rfl,by rw [eo.out];exact RowB.nil _ _⟩,N1⟩
 obtain ⟨rfl,q,rfl,hq,RQ⟩:=h
 have N1:=nxt N0.out n1
 by_cases f0:f=0
 rotate_left
 ·have eo : Hid (out = []) := by show _ = _; rw [HO.out, if_neg (fun h => f0 h.2)]
  have d0:(f == 0)=false:=beq_eq_false_iff_ne.2 f0
  clear CC RG RW BH n1 RQ
  go_wp2
  go_ret
  exact ⟨⟨_,rfl,by rw [eo.out];exact RowB.nil _ _⟩,N1⟩
 subst f0
 replace hb:=hb rfl
 have eo:Hid (out=enL 2 bl):=by show _=_;rw [HO.out,if_pos ⟨rfl,rfl⟩]
 have c0:w1.cell? ⟨w.heap.size,0,none⟩=some (.int .i64 2):=(RW.up n1).cell 0
 have CB:=hide (BH.out w1 q N1 RQ rfl rfl)
 clear CC RG RW BH n1 RQ hq
 go_wp2_with fail
 refine CB.out.mono ?_
 rintro e w2 ⟨⟨v2,rfl,R2⟩,n2⟩
 have N2:=nxt N1 n2
 have c2:=cellq n2 c0
 obtain ⟨a2,k2,g2,rfl,r2,z2,_,_⟩:=R2.rd
 have n3:Below w2.heap.size w2 (w2.alloc (.cells #[.int .u8 2] 5)):=(Below.refl _ _).alloc (Nat.le_refl _) _
 have C4:=hide (appendNumber_any _ w2.heap.size _ _ (RowB.lit1 w2 2) n3.size (bl.length:Int) 3 (by decide) (by simp))
 have N3:=hide n3
 clear CB R2 n2 c0 N1 n3
 go_wp2_with fail
 refine C4.out.mono ?_
 rintro e w4 ⟨v4,rfl,R4,n4⟩
 have N4:Below w2.heap.size w2 w4:=N3.out.trans n4
 obtain ⟨v5,w5,hap,R5,n5⟩:=append_any (P:=Tryz.prog) w4 22 i0 Tryz.underlying22 hi hz0 hz1 hz2 w2.heap.size w2.heap.size _ _ R4 g2 a2 k2 bl (r2.up N4) z2 (by simp [bigL_len];omega) (Nat.le_refl _) N4.size
 have N5:=nxt N2 (N4.trans n5)
 have S2:=N2.size
 have R6:=R5.base S2
 clear C4 R4 R5 n4 n5 N4 N3 r2 c2 S2
 go_wp2_with (at_builtin;refine Lib.wpList_append_run _ rfl _ _ 22 22 rfl _ _ rfl rfl _ _ hap ?_)
 go_ret
 exact ⟨⟨_,rfl,by rw [eo.out];exact R6⟩,N5⟩
set_option maxRecDepth 100000 in
set_option maxHeartbeats 1000000 in
theorem encTicket (w:World) (vs:Array Value) (x1 x2 x3 x4 x5 x6 x7 x8 x9 x10 x11 x12:Value) (hv:vs = #[.int .i64 4,x1,x2,x3,x4,x5,x6,x7,x8,x9,x10,x11,x12]) (s:Bool) (fs:List Value) (f:Int) (bl:List Int) (hb:f=0→bl.length≤536870912)
  (TO:∀ W,Below w.heap.size w W→Calls Tryz.prog 16 #[.agg vs] W (TyP W s 80 82 fs f))
  (BD:∀ W q,Below w.heap.size w W→RwC W q fs 82→s=true→f=0→Calls Tryz.prog 117 #[.pointer (some ⟨q,0,none⟩)] W (BodP W bl)) :
  Calls Tryz.prog 5 #[.agg vs] w (BodP w (if s=true∧f=0 then enL 4 bl else [])):=by
 subst hv
 obtain ⟨out,ho⟩:∃ l,l=(if s=true∧f=0 then enL 4 bl else []):=⟨_,rfl⟩
 rw [← ho]
 have HO:=hide ho
 clear ho
 obtain ⟨i0,hi,hz0,hz1,hz2⟩:=info_parts Tryz.info5
 have n0:Below w.heap.size w (w.alloc (.cells #[.int .i64 4,x1,x2,x3,x4,x5,x6,x7,x8,x9,x10,x11,x12] 26)):=(Below.refl _ _).alloc (Nat.le_refl _) _
 have CC:=hide (TO _ n0)
 have RW:=RwC.new w [.int .i64 4,x1,x2,x3,x4,x5,x6,x7,x8,x9,x10,x11,x12] 26
 have RG:=RwC.range RW
 obtain ⟨d13,hd13,hrow13⟩:=rowM
 have N0:=hide n0
 have BH:=hide BD
 clear TO n0 BD
 go_enter Tryz.func5,Tryz.ntmps5
 go_wp2_with fail
 refine CC.out.mono ?_
 rintro e w1 ⟨h | h,n1⟩
 ·obtain ⟨rfl, rfl⟩ := h
  have eo:Hid (out=[]):=by show _=_;rw [HO.out,if_neg (by simp)]
  have N1:=nxt N0.out n1
  clear CC RG RW BH n1
  go_wp2
  go_ret
  exact ⟨⟨_,rfl,by rw [eo.out];exact RowB.nil _ _⟩,N1⟩
 obtain ⟨rfl,q,rfl,hq,RQ⟩:=h
 have N1:=nxt N0.out n1
 by_cases f0:f=0
 rotate_left
 ·have eo : Hid (out = []) := by show _ = _; rw [HO.out, if_neg (fun h => f0 h.2)]
  have d0:(f == 0)=false:=beq_eq_false_iff_ne.2 f0
  clear CC RG RW BH n1 RQ
  go_wp2
  go_ret
  exact ⟨⟨_,rfl,by rw [eo.out];exact RowB.nil _ _⟩,N1⟩
 subst f0
 replace hb:=hb rfl
 have eo:Hid (out=enL 4 bl):=by show _=_;rw [HO.out,if_pos ⟨rfl,rfl⟩]
 have c0:w1.cell? ⟨w.heap.size,0,none⟩=some (.int .i64 4):=(RW.up n1).cell 0
 have CB:=hide (BH.out w1 q N1 RQ rfl rfl)
 clear CC RG RW BH n1 RQ hq
 go_wp2_with fail
 refine CB.out.mono ?_
 rintro e w2 ⟨⟨v2,rfl,R2⟩,n2⟩
 have N2:=nxt N1 n2
 have c2:=cellq n2 c0
 obtain ⟨a2,k2,g2,rfl,r2,z2,_,_⟩:=R2.rd
 have n3:Below w2.heap.size w2 (w2.alloc (.cells #[.int .u8 4] 5)):=(Below.refl _ _).alloc (Nat.le_refl _) _
 have C4:=hide (appendNumber_any _ w2.heap.size _ _ (RowB.lit1 w2 4) n3.size (bl.length:Int) 3 (by decide) (by simp))
 have N3:=hide n3
 clear CB R2 n2 c0 N1 n3
 go_wp2_with fail
 refine C4.out.mono ?_
 rintro e w4 ⟨v4,rfl,R4,n4⟩
 have N4:Below w2.heap.size w2 w4:=N3.out.trans n4
 obtain ⟨v5,w5,hap,R5,n5⟩:=append_any (P:=Tryz.prog) w4 22 i0 Tryz.underlying22 hi hz0 hz1 hz2 w2.heap.size w2.heap.size _ _ R4 g2 a2 k2 bl (r2.up N4) z2 (by simp [bigL_len];omega) (Nat.le_refl _) N4.size
 have N5:=nxt N2 (N4.trans n5)
 have S2:=N2.size
 have R6:=R5.base S2
 clear C4 R4 R5 n4 n5 N4 N3 r2 c2 S2
 go_wp2_with (at_builtin;refine Lib.wpList_append_run _ rfl _ _ 22 22 rfl _ _ rfl rfl _ _ hap ?_)
 go_ret
 exact ⟨⟨_,rfl,by rw [eo.out];exact R6⟩,N5⟩
set_option maxRecDepth 100000 in
set_option maxHeartbeats 1000000 in
theorem encEnd (w:World) (vs:Array Value) (x1 x2 x3 x4 x5 x6 x7 x8 x9 x10 x11 x12:Value) (hv:vs = #[.int .i64 5,x1,x2,x3,x4,x5,x6,x7,x8,x9,x10,x11,x12]) (s:Bool) (fs:List Value) (f:Int) (bl:List Int) (hb:f=0→bl.length≤536870912)
  (TO:∀ W,Below w.heap.size w W→Calls Tryz.prog 16 #[.agg vs] W (TyP W s 83 85 fs f))
  (BD:∀ W q,Below w.heap.size w W→RwC W q fs 85→s=true→f=0→Calls Tryz.prog 121 #[.pointer (some ⟨q,0,none⟩)] W (BodP W bl)) :
  Calls Tryz.prog 5 #[.agg vs] w (BodP w (if s=true∧f=0 then enL 5 bl else [])):=by
 subst hv
 obtain ⟨out,ho⟩:∃ l,l=(if s=true∧f=0 then enL 5 bl else []):=⟨_,rfl⟩
 rw [← ho]
 have HO:=hide ho
 clear ho
 obtain ⟨i0,hi,hz0,hz1,hz2⟩:=info_parts Tryz.info5
 have n0:Below w.heap.size w (w.alloc (.cells #[.int .i64 5,x1,x2,x3,x4,x5,x6,x7,x8,x9,x10,x11,x12] 26)):=(Below.refl _ _).alloc (Nat.le_refl _) _
 have CC:=hide (TO _ n0)
 have RW:=RwC.new w [.int .i64 5,x1,x2,x3,x4,x5,x6,x7,x8,x9,x10,x11,x12] 26
 have RG:=RwC.range RW
 obtain ⟨d13,hd13,hrow13⟩:=rowM
 have N0:=hide n0
 have BH:=hide BD
 clear TO n0 BD
 go_enter Tryz.func5,Tryz.ntmps5
 go_wp2_with fail
 refine CC.out.mono ?_
 rintro e w1 ⟨h | h,n1⟩
 ·obtain ⟨rfl, rfl⟩ := h
  have eo:Hid (out=[]):=by show _=_;rw [HO.out,if_neg (by simp)]
  have N1:=nxt N0.out n1
  clear CC RG RW BH n1
  go_wp2
  go_ret
  exact ⟨⟨_,rfl,by rw [eo.out];exact RowB.nil _ _⟩,N1⟩
 obtain ⟨rfl,q,rfl,hq,RQ⟩:=h
 have N1:=nxt N0.out n1
 by_cases f0:f=0
 rotate_left
 ·have eo : Hid (out = []) := by show _ = _; rw [HO.out, if_neg (fun h => f0 h.2)]
  have d0:(f == 0)=false:=beq_eq_false_iff_ne.2 f0
  clear CC RG RW BH n1 RQ
  go_wp2
  go_ret
  exact ⟨⟨_,rfl,by rw [eo.out];exact RowB.nil _ _⟩,N1⟩
 subst f0
 replace hb:=hb rfl
 have eo:Hid (out=enL 5 bl):=by show _=_;rw [HO.out,if_pos ⟨rfl,rfl⟩]
 have c0:w1.cell? ⟨w.heap.size,0,none⟩=some (.int .i64 5):=(RW.up n1).cell 0
 have CB:=hide (BH.out w1 q N1 RQ rfl rfl)
 clear CC RG RW BH n1 RQ hq
 go_wp2_with fail
 refine CB.out.mono ?_
 rintro e w2 ⟨⟨v2,rfl,R2⟩,n2⟩
 have N2:=nxt N1 n2
 have c2:=cellq n2 c0
 obtain ⟨a2,k2,g2,rfl,r2,z2,_,_⟩:=R2.rd
 have n3:Below w2.heap.size w2 (w2.alloc (.cells #[.int .u8 5] 5)):=(Below.refl _ _).alloc (Nat.le_refl _) _
 have C4:=hide (appendNumber_any _ w2.heap.size _ _ (RowB.lit1 w2 5) n3.size (bl.length:Int) 3 (by decide) (by simp))
 have N3:=hide n3
 clear CB R2 n2 c0 N1 n3
 go_wp2_with fail
 refine C4.out.mono ?_
 rintro e w4 ⟨v4,rfl,R4,n4⟩
 have N4:Below w2.heap.size w2 w4:=N3.out.trans n4
 obtain ⟨v5,w5,hap,R5,n5⟩:=append_any (P:=Tryz.prog) w4 22 i0 Tryz.underlying22 hi hz0 hz1 hz2 w2.heap.size w2.heap.size _ _ R4 g2 a2 k2 bl (r2.up N4) z2 (by simp [bigL_len];omega) (Nat.le_refl _) N4.size
 have N5:=nxt N2 (N4.trans n5)
 have S2:=N2.size
 have R6:=R5.base S2
 clear C4 R4 R5 n4 n5 N4 N3 r2 c2 S2
 go_wp2_with (at_builtin;refine Lib.wpList_append_run _ rfl _ _ 22 22 rfl _ _ rfl rfl _ _ hap ?_)
 go_ret
 exact ⟨⟨_,rfl,by rw [eo.out];exact R6⟩,N5⟩
set_option maxRecDepth 100000 in
set_option maxHeartbeats 1000000 in
theorem encExtras (w:World) (vs:Array Value) (x1 x2 x3 x4 x5 x6 x7 x8 x9 x10 x11 x12:Value) (hv:vs = #[.int .i64 8,x1,x2,x3,x4,x5,x6,x7,x8,x9,x10,x11,x12]) (s:Bool) (fs:List Value) (f:Int) (bl:List Int) (hb:f=0→bl.length≤536870912)
  (TO:∀ W,Below w.heap.size w W→Calls Tryz.prog 16 #[.agg vs] W (TyP W s 86 88 fs f))
  (BD:∀ W q,Below w.heap.size w W→RwC W q fs 88→s=true→f=0→Calls Tryz.prog 125 #[.pointer (some ⟨q,0,none⟩)] W (BodP W bl)) :
  Calls Tryz.prog 5 #[.agg vs] w (BodP w (if s=true∧f=0 then enL 8 bl else [])):=by
 subst hv
 obtain ⟨out,ho⟩:∃ l,l=(if s=true∧f=0 then enL 8 bl else []):=⟨_,rfl⟩
 rw [← ho]
 have HO:=hide ho
 clear ho
 obtain ⟨i0,hi,hz0,hz1,hz2⟩:=info_parts Tryz.info5
 have n0:Below w.heap.size w (w.alloc (.cells #[.int .i64 8,x1,x2,x3,x4,x5,x6,x7,x8,x9,x10,x11,x12] 26)):=(Below.refl _ _).alloc (Nat.le_refl _) _
 have CC:=hide (TO _ n0)
 have RW:=RwC.new w [.int .i64 8,x1,x2,x3,x4,x5,x6,x7,x8,x9,x10,x11,x12] 26
 have RG:=RwC.range RW
 obtain ⟨d13,hd13,hrow13⟩:=rowM
 have N0:=hide n0
 have BH:=hide BD
 clear TO n0 BD
 go_enter Tryz.func5,Tryz.ntmps5
 go_wp2_with fail
 refine CC.out.mono ?_
 rintro e w1 ⟨h | h,n1⟩
 ·obtain ⟨rfl, rfl⟩ := h
  have eo:Hid (out=[]):=by show _=_;rw [HO.out,if_neg (by simp)]
  have N1:=nxt N0.out n1
  clear CC RG RW BH n1
  go_wp2
  go_ret
  exact ⟨⟨_,rfl,by rw [eo.out];exact RowB.nil _ _⟩,N1⟩
 obtain ⟨rfl,q,rfl,hq,RQ⟩:=h
 have N1:=nxt N0.out n1
 by_cases f0:f=0
 rotate_left
 ·have eo : Hid (out = []) := by show _ = _; rw [HO.out, if_neg (fun h => f0 h.2)]
  have d0:(f == 0)=false:=beq_eq_false_iff_ne.2 f0
  clear CC RG RW BH n1 RQ
  go_wp2
  go_ret
  exact ⟨⟨_,rfl,by rw [eo.out];exact RowB.nil _ _⟩,N1⟩
 subst f0
 replace hb:=hb rfl
 have eo:Hid (out=enL 8 bl):=by show _=_;rw [HO.out,if_pos ⟨rfl,rfl⟩]
 have c0:w1.cell? ⟨w.heap.size,0,none⟩=some (.int .i64 8):=(RW.up n1).cell 0
 have CB:=hide (BH.out w1 q N1 RQ rfl rfl)
 clear CC RG RW BH n1 RQ hq
 go_wp2_with fail
 refine CB.out.mono ?_
 rintro e w2 ⟨⟨v2,rfl,R2⟩,n2⟩
 have N2:=nxt N1 n2
 have c2:=cellq n2 c0
 obtain ⟨a2,k2,g2,rfl,r2,z2,_,_⟩:=R2.rd
 have n3:Below w2.heap.size w2 (w2.alloc (.cells #[.int .u8 8] 5)):=(Below.refl _ _).alloc (Nat.le_refl _) _
 have C4:=hide (appendNumber_any _ w2.heap.size _ _ (RowB.lit1 w2 8) n3.size (bl.length:Int) 3 (by decide) (by simp))
 have N3:=hide n3
 clear CB R2 n2 c0 N1 n3
 go_wp2_with fail
 refine C4.out.mono ?_
 rintro e w4 ⟨v4,rfl,R4,n4⟩
 have N4:Below w2.heap.size w2 w4:=N3.out.trans n4
 obtain ⟨v5,w5,hap,R5,n5⟩:=append_any (P:=Tryz.prog) w4 22 i0 Tryz.underlying22 hi hz0 hz1 hz2 w2.heap.size w2.heap.size _ _ R4 g2 a2 k2 bl (r2.up N4) z2 (by simp [bigL_len];omega) (Nat.le_refl _) N4.size
 have N5:=nxt N2 (N4.trans n5)
 have S2:=N2.size
 have R6:=R5.base S2
 clear C4 R4 R5 n4 n5 N4 N3 r2 c2 S2
 go_wp2_with (at_builtin;refine Lib.wpList_append_run _ rfl _ _ 22 22 rfl _ _ rfl rfl _ _ hap ?_)
 go_ret
 exact ⟨⟨_,rfl,by rw [eo.out];exact R6⟩,N5⟩
set_option maxRecDepth 100000 in
set_option maxHeartbeats 1000000 in
theorem encCerts (w:World) (vs:Array Value) (x1 x2 x3 x4 x5 x6 x7 x8 x9 x10 x11 x12:Value) (hv:vs = #[.int .i64 11,x1,x2,x3,x4,x5,x6,x7,x8,x9,x10,x11,x12]) (s:Bool) (fs:List Value) (f:Int) (bl:List Int) (hb:f=0→bl.length≤536870912)
  (TO:∀ W,Below w.heap.size w W→Calls Tryz.prog 16 #[.agg vs] W (TyP W s 89 91 fs f))
  (BD:∀ W q,Below w.heap.size w W→RwC W q fs 91→s=true→f=0→Calls Tryz.prog 129 #[.pointer (some ⟨q,0,none⟩)] W (BodP W bl)) :
  Calls Tryz.prog 5 #[.agg vs] w (BodP w (if s=true∧f=0 then enL 11 bl else [])):=by
 subst hv
 obtain ⟨out,ho⟩:∃ l,l=(if s=true∧f=0 then enL 11 bl else []):=⟨_,rfl⟩
 rw [← ho]
 have HO:=hide ho
 clear ho
 obtain ⟨i0,hi,hz0,hz1,hz2⟩:=info_parts Tryz.info5
 have n0:Below w.heap.size w (w.alloc (.cells #[.int .i64 11,x1,x2,x3,x4,x5,x6,x7,x8,x9,x10,x11,x12] 26)):=(Below.refl _ _).alloc (Nat.le_refl _) _
 have CC:=hide (TO _ n0)
 have RW:=RwC.new w [.int .i64 11,x1,x2,x3,x4,x5,x6,x7,x8,x9,x10,x11,x12] 26
 have RG:=RwC.range RW
 obtain ⟨d13,hd13,hrow13⟩:=rowM
 have N0:=hide n0
 have BH:=hide BD
 clear TO n0 BD
 go_enter Tryz.func5,Tryz.ntmps5
 go_wp2_with fail
 refine CC.out.mono ?_
 rintro e w1 ⟨h | h,n1⟩
 ·obtain ⟨rfl, rfl⟩ := h
  have eo:Hid (out=[]):=by show _=_;rw [HO.out,if_neg (by simp)]
  have N1:=nxt N0.out n1
  clear CC RG RW BH n1
  go_wp2
  go_ret
  exact ⟨⟨_,rfl,by rw [eo.out];exact RowB.nil _ _⟩,N1⟩
 obtain ⟨rfl,q,rfl,hq,RQ⟩:=h
 have N1:=nxt N0.out n1
 by_cases f0:f=0
 rotate_left
 ·have eo : Hid (out = []) := by show _ = _; rw [HO.out, if_neg (fun h => f0 h.2)]
  have d0:(f == 0)=false:=beq_eq_false_iff_ne.2 f0
  clear CC RG RW BH n1 RQ
  go_wp2
  go_ret
  exact ⟨⟨_,rfl,by rw [eo.out];exact RowB.nil _ _⟩,N1⟩
 subst f0
 replace hb:=hb rfl
 have eo:Hid (out=enL 11 bl):=by show _=_;rw [HO.out,if_pos ⟨rfl,rfl⟩]
 have c0:w1.cell? ⟨w.heap.size,0,none⟩=some (.int .i64 11):=(RW.up n1).cell 0
 have CB:=hide (BH.out w1 q N1 RQ rfl rfl)
 clear CC RG RW BH n1 RQ hq
 go_wp2_with fail
 refine CB.out.mono ?_
 rintro e w2 ⟨⟨v2,rfl,R2⟩,n2⟩
 have N2:=nxt N1 n2
 have c2:=cellq n2 c0
 obtain ⟨a2,k2,g2,rfl,r2,z2,_,_⟩:=R2.rd
 have n3:Below w2.heap.size w2 (w2.alloc (.cells #[.int .u8 11] 5)):=(Below.refl _ _).alloc (Nat.le_refl _) _
 have C4:=hide (appendNumber_any _ w2.heap.size _ _ (RowB.lit1 w2 11) n3.size (bl.length:Int) 3 (by decide) (by simp))
 have N3:=hide n3
 clear CB R2 n2 c0 N1 n3
 go_wp2_with fail
 refine C4.out.mono ?_
 rintro e w4 ⟨v4,rfl,R4,n4⟩
 have N4:Below w2.heap.size w2 w4:=N3.out.trans n4
 obtain ⟨v5,w5,hap,R5,n5⟩:=append_any (P:=Tryz.prog) w4 22 i0 Tryz.underlying22 hi hz0 hz1 hz2 w2.heap.size w2.heap.size _ _ R4 g2 a2 k2 bl (r2.up N4) z2 (by simp [bigL_len];omega) (Nat.le_refl _) N4.size
 have N5:=nxt N2 (N4.trans n5)
 have S2:=N2.size
 have R6:=R5.base S2
 clear C4 R4 R5 n4 n5 N4 N3 r2 c2 S2
 go_wp2_with (at_builtin;refine Lib.wpList_append_run _ rfl _ _ 22 22 rfl _ _ rfl rfl _ _ hap ?_)
 go_ret
 exact ⟨⟨_,rfl,by rw [eo.out];exact R6⟩,N5⟩
set_option maxRecDepth 100000 in
set_option maxHeartbeats 1000000 in
theorem encProof (w:World) (vs:Array Value) (x1 x2 x3 x4 x5 x6 x7 x8 x9 x10 x11 x12:Value) (hv:vs = #[.int .i64 15,x1,x2,x3,x4,x5,x6,x7,x8,x9,x10,x11,x12]) (s:Bool) (fs:List Value) (f:Int) (bl:List Int) (hb:f=0→bl.length≤536870912)
  (TO:∀ W,Below w.heap.size w W→Calls Tryz.prog 16 #[.agg vs] W (TyP W s 92 94 fs f))
  (BD:∀ W q,Below w.heap.size w W→RwC W q fs 94→s=true→f=0→Calls Tryz.prog 136 #[.pointer (some ⟨q,0,none⟩)] W (BodP W bl)) :
  Calls Tryz.prog 5 #[.agg vs] w (BodP w (if s=true∧f=0 then enL 15 bl else [])):=by
 subst hv
 obtain ⟨out,ho⟩:∃ l,l=(if s=true∧f=0 then enL 15 bl else []):=⟨_,rfl⟩
 rw [← ho]
 have HO:=hide ho
 clear ho
 obtain ⟨i0,hi,hz0,hz1,hz2⟩:=info_parts Tryz.info5
 have n0:Below w.heap.size w (w.alloc (.cells #[.int .i64 15,x1,x2,x3,x4,x5,x6,x7,x8,x9,x10,x11,x12] 26)):=(Below.refl _ _).alloc (Nat.le_refl _) _
 have CC:=hide (TO _ n0)
 have RW:=RwC.new w [.int .i64 15,x1,x2,x3,x4,x5,x6,x7,x8,x9,x10,x11,x12] 26
 have RG:=RwC.range RW
 obtain ⟨d13,hd13,hrow13⟩:=rowM
 have N0:=hide n0
 have BH:=hide BD
 clear TO n0 BD
 go_enter Tryz.func5,Tryz.ntmps5
 go_wp2_with fail
 refine CC.out.mono ?_
 rintro e w1 ⟨h | h,n1⟩
 ·obtain ⟨rfl, rfl⟩ := h
  have eo:Hid (out=[]):=by show _=_;rw [HO.out,if_neg (by simp)]
  have N1:=nxt N0.out n1
  clear CC RG RW BH n1
  go_wp2
  go_ret
  exact ⟨⟨_,rfl,by rw [eo.out];exact RowB.nil _ _⟩,N1⟩
 obtain ⟨rfl,q,rfl,hq,RQ⟩:=h
 have N1:=nxt N0.out n1
 by_cases f0:f=0
 rotate_left
 ·have eo : Hid (out = []) := by show _ = _; rw [HO.out, if_neg (fun h => f0 h.2)]
  have d0:(f == 0)=false:=beq_eq_false_iff_ne.2 f0
  clear CC RG RW BH n1 RQ
  go_wp2
  go_ret
  exact ⟨⟨_,rfl,by rw [eo.out];exact RowB.nil _ _⟩,N1⟩
 subst f0
 replace hb:=hb rfl
 have eo:Hid (out=enL 15 bl):=by show _=_;rw [HO.out,if_pos ⟨rfl,rfl⟩]
 have c0:w1.cell? ⟨w.heap.size,0,none⟩=some (.int .i64 15):=(RW.up n1).cell 0
 have CB:=hide (BH.out w1 q N1 RQ rfl rfl)
 clear CC RG RW BH n1 RQ hq
 go_wp2_with fail
 refine CB.out.mono ?_
 rintro e w2 ⟨⟨v2,rfl,R2⟩,n2⟩
 have N2:=nxt N1 n2
 have c2:=cellq n2 c0
 obtain ⟨a2,k2,g2,rfl,r2,z2,_,_⟩:=R2.rd
 have n3:Below w2.heap.size w2 (w2.alloc (.cells #[.int .u8 15] 5)):=(Below.refl _ _).alloc (Nat.le_refl _) _
 have C4:=hide (appendNumber_any _ w2.heap.size _ _ (RowB.lit1 w2 15) n3.size (bl.length:Int) 3 (by decide) (by simp))
 have N3:=hide n3
 clear CB R2 n2 c0 N1 n3
 go_wp2_with fail
 refine C4.out.mono ?_
 rintro e w4 ⟨v4,rfl,R4,n4⟩
 have N4:Below w2.heap.size w2 w4:=N3.out.trans n4
 obtain ⟨v5,w5,hap,R5,n5⟩:=append_any (P:=Tryz.prog) w4 22 i0 Tryz.underlying22 hi hz0 hz1 hz2 w2.heap.size w2.heap.size _ _ R4 g2 a2 k2 bl (r2.up N4) z2 (by simp [bigL_len];omega) (Nat.le_refl _) N4.size
 have N5:=nxt N2 (N4.trans n5)
 have S2:=N2.size
 have R6:=R5.base S2
 clear C4 R4 R5 n4 n5 N4 N3 r2 c2 S2
 go_wp2_with (at_builtin;refine Lib.wpList_append_run _ rfl _ _ 22 22 rfl _ _ rfl rfl _ _ hap ?_)
 go_ret
 exact ⟨⟨_,rfl,by rw [eo.out];exact R6⟩,N5⟩
set_option maxRecDepth 100000 in
set_option maxHeartbeats 1000000 in
theorem encFinished (w:World) (vs:Array Value) (x1 x2 x3 x4 x5 x6 x7 x8 x9 x10 x11 x12:Value) (hv:vs = #[.int .i64 20,x1,x2,x3,x4,x5,x6,x7,x8,x9,x10,x11,x12]) (s:Bool) (fs:List Value) (f:Int) (bl:List Int) (hb:f=0→bl.length≤536870912)
  (TO:∀ W,Below w.heap.size w W→Calls Tryz.prog 16 #[.agg vs] W (TyP W s 95 96 fs f))
  (BD:∀ W q,Below w.heap.size w W→RwC W q fs 96→s=true→f=0→Calls Tryz.prog 141 #[.pointer (some ⟨q,0,none⟩)] W (BodP W bl)) :
  Calls Tryz.prog 5 #[.agg vs] w (BodP w (if s=true∧f=0 then enL 20 bl else [])):=by
 subst hv
 obtain ⟨out,ho⟩:∃ l,l=(if s=true∧f=0 then enL 20 bl else []):=⟨_,rfl⟩
 rw [← ho]
 have HO:=hide ho
 clear ho
 obtain ⟨i0,hi,hz0,hz1,hz2⟩:=info_parts Tryz.info5
 have n0:Below w.heap.size w (w.alloc (.cells #[.int .i64 20,x1,x2,x3,x4,x5,x6,x7,x8,x9,x10,x11,x12] 26)):=(Below.refl _ _).alloc (Nat.le_refl _) _
 have CC:=hide (TO _ n0)
 have RW:=RwC.new w [.int .i64 20,x1,x2,x3,x4,x5,x6,x7,x8,x9,x10,x11,x12] 26
 have RG:=RwC.range RW
 obtain ⟨d13,hd13,hrow13⟩:=rowM
 have N0:=hide n0
 have BH:=hide BD
 clear TO n0 BD
 go_enter Tryz.func5,Tryz.ntmps5
 go_wp2_with fail
 refine CC.out.mono ?_
 rintro e w1 ⟨h | h,n1⟩
 ·obtain ⟨rfl, rfl⟩ := h
  have eo:Hid (out=[]):=by show _=_;rw [HO.out,if_neg (by simp)]
  have N1:=nxt N0.out n1
  clear CC RG RW BH n1
  go_wp2
  go_ret
  exact ⟨⟨_,rfl,by rw [eo.out];exact RowB.nil _ _⟩,N1⟩
 obtain ⟨rfl,q,rfl,hq,RQ⟩:=h
 have N1:=nxt N0.out n1
 by_cases f0:f=0
 rotate_left
 ·have eo : Hid (out = []) := by show _ = _; rw [HO.out, if_neg (fun h => f0 h.2)]
  have d0:(f == 0)=false:=beq_eq_false_iff_ne.2 f0
  clear CC RG RW BH n1 RQ
  go_wp2
  go_ret
  exact ⟨⟨_,rfl,by rw [eo.out];exact RowB.nil _ _⟩,N1⟩
 subst f0
 replace hb:=hb rfl
 have eo:Hid (out=enL 20 bl):=by show _=_;rw [HO.out,if_pos ⟨rfl,rfl⟩]
 have c0:w1.cell? ⟨w.heap.size,0,none⟩=some (.int .i64 20):=(RW.up n1).cell 0
 have CB:=hide (BH.out w1 q N1 RQ rfl rfl)
 clear CC RG RW BH n1 RQ hq
 go_wp2_with fail
 refine CB.out.mono ?_
 rintro e w2 ⟨⟨v2,rfl,R2⟩,n2⟩
 have N2:=nxt N1 n2
 have c2:=cellq n2 c0
 obtain ⟨a2,k2,g2,rfl,r2,z2,_,_⟩:=R2.rd
 have n3:Below w2.heap.size w2 (w2.alloc (.cells #[.int .u8 20] 5)):=(Below.refl _ _).alloc (Nat.le_refl _) _
 have C4:=hide (appendNumber_any _ w2.heap.size _ _ (RowB.lit1 w2 20) n3.size (bl.length:Int) 3 (by decide) (by simp))
 have N3:=hide n3
 clear CB R2 n2 c0 N1 n3
 go_wp2_with fail
 refine C4.out.mono ?_
 rintro e w4 ⟨v4,rfl,R4,n4⟩
 have N4:Below w2.heap.size w2 w4:=N3.out.trans n4
 obtain ⟨v5,w5,hap,R5,n5⟩:=append_any (P:=Tryz.prog) w4 22 i0 Tryz.underlying22 hi hz0 hz1 hz2 w2.heap.size w2.heap.size _ _ R4 g2 a2 k2 bl (r2.up N4) z2 (by simp [bigL_len];omega) (Nat.le_refl _) N4.size
 have N5:=nxt N2 (N4.trans n5)
 have S2:=N2.size
 have R6:=R5.base S2
 clear C4 R4 R5 n4 n5 N4 N3 r2 c2 S2
 go_wp2_with (at_builtin;refine Lib.wpList_append_run _ rfl _ _ 22 22 rfl _ _ rfl rfl _ _ hap ?_)
 go_ret
 exact ⟨⟨_,rfl,by rw [eo.out];exact R6⟩,N5⟩
set_option maxRecDepth 100000 in
set_option maxHeartbeats 1000000 in
theorem encUpdate (w:World) (vs:Array Value) (x1 x2 x3 x4 x5 x6 x7 x8 x9 x10 x11 x12:Value) (hv:vs = #[.int .i64 24,x1,x2,x3,x4,x5,x6,x7,x8,x9,x10,x11,x12]) (s:Bool) (fs:List Value) (f:Int) (bl:List Int) (hb:f=0→bl.length≤536870912)
  (TO:∀ W,Below w.heap.size w W→Calls Tryz.prog 16 #[.agg vs] W (TyP W s 97 99 fs f))
  (BD:∀ W q,Below w.heap.size w W→RwC W q fs 99→s=true→f=0→Calls Tryz.prog 145 #[.pointer (some ⟨q,0,none⟩)] W (BodP W bl)) :
  Calls Tryz.prog 5 #[.agg vs] w (BodP w (if s=true∧f=0 then enL 24 bl else [])):=by
 subst hv
 obtain ⟨out,ho⟩:∃ l,l=(if s=true∧f=0 then enL 24 bl else []):=⟨_,rfl⟩
 rw [← ho]
 have HO:=hide ho
 clear ho
 obtain ⟨i0,hi,hz0,hz1,hz2⟩:=info_parts Tryz.info5
 have n0:Below w.heap.size w (w.alloc (.cells #[.int .i64 24,x1,x2,x3,x4,x5,x6,x7,x8,x9,x10,x11,x12] 26)):=(Below.refl _ _).alloc (Nat.le_refl _) _
 have CC:=hide (TO _ n0)
 have RW:=RwC.new w [.int .i64 24,x1,x2,x3,x4,x5,x6,x7,x8,x9,x10,x11,x12] 26
 have RG:=RwC.range RW
 obtain ⟨d13,hd13,hrow13⟩:=rowM
 have N0:=hide n0
 have BH:=hide BD
 clear TO n0 BD
 go_enter Tryz.func5,Tryz.ntmps5
 go_wp2_with fail
 refine CC.out.mono ?_
 rintro e w1 ⟨h | h,n1⟩
 ·obtain ⟨rfl, rfl⟩ := h
  have eo:Hid (out=[]):=by show _=_;rw [HO.out,if_neg (by simp)]
  have N1:=nxt N0.out n1
  clear CC RG RW BH n1
  go_wp2
  go_ret
  exact ⟨⟨_,rfl,by rw [eo.out];exact RowB.nil _ _⟩,N1⟩
 obtain ⟨rfl,q,rfl,hq,RQ⟩:=h
 have N1:=nxt N0.out n1
 by_cases f0:f=0
 rotate_left
 ·have eo : Hid (out = []) := by show _ = _; rw [HO.out, if_neg (fun h => f0 h.2)]
  have d0:(f == 0)=false:=beq_eq_false_iff_ne.2 f0
  clear CC RG RW BH n1 RQ
  go_wp2
  go_ret
  exact ⟨⟨_,rfl,by rw [eo.out];exact RowB.nil _ _⟩,N1⟩
 subst f0
 replace hb:=hb rfl
 have eo:Hid (out=enL 24 bl):=by show _=_;rw [HO.out,if_pos ⟨rfl,rfl⟩]
 have c0:w1.cell? ⟨w.heap.size,0,none⟩=some (.int .i64 24):=(RW.up n1).cell 0
 have CB:=hide (BH.out w1 q N1 RQ rfl rfl)
 clear CC RG RW BH n1 RQ hq
 go_wp2_with fail
 refine CB.out.mono ?_
 rintro e w2 ⟨⟨v2,rfl,R2⟩,n2⟩
 have N2:=nxt N1 n2
 have c2:=cellq n2 c0
 obtain ⟨a2,k2,g2,rfl,r2,z2,_,_⟩:=R2.rd
 have n3:Below w2.heap.size w2 (w2.alloc (.cells #[.int .u8 24] 5)):=(Below.refl _ _).alloc (Nat.le_refl _) _
 have C4:=hide (appendNumber_any _ w2.heap.size _ _ (RowB.lit1 w2 24) n3.size (bl.length:Int) 3 (by decide) (by simp))
 have N3:=hide n3
 clear CB R2 n2 c0 N1 n3
 go_wp2_with fail
 refine C4.out.mono ?_
 rintro e w4 ⟨v4,rfl,R4,n4⟩
 have N4:Below w2.heap.size w2 w4:=N3.out.trans n4
 obtain ⟨v5,w5,hap,R5,n5⟩:=append_any (P:=Tryz.prog) w4 22 i0 Tryz.underlying22 hi hz0 hz1 hz2 w2.heap.size w2.heap.size _ _ R4 g2 a2 k2 bl (r2.up N4) z2 (by simp [bigL_len];omega) (Nat.le_refl _) N4.size
 have N5:=nxt N2 (N4.trans n5)
 have S2:=N2.size
 have R6:=R5.base S2
 clear C4 R4 R5 n4 n5 N4 N3 r2 c2 S2
 go_wp2_with (at_builtin;refine Lib.wpList_append_run _ rfl _ _ 22 22 rfl _ _ rfl rfl _ _ hap ?_)
 go_ret
 exact ⟨⟨_,rfl,by rw [eo.out];exact R6⟩,N5⟩
end Go.Proofs.YtmmbkkfjiaoeiaaGreat
namespace Go.Proofs.YtmmbkkfjiaoeiaaGreat
open Go Go.RowKit
structure HasZ (p:MQ) (m:Msg):Prop where
 z2:p.a2=none→p.c2=0
 z3:p.a3=none→p.c3=0
 z6:p.a6=none→p.c6=0
 z9:p.a9=none→p.c9=0
 z12:p.a12=none→p.c12=0
 zc:∀ i,i < m.ce.length→(p.ps.getD i plb0).a=none→(p.ps.getD i plb0).c=0
theorem rd_lt {w:World} {g:Nat} {a:Option Addr} {xs:List Int} (r:Rd w g a .u8 xs):xs.length=0∨g < w.heap.size:=by
 by_cases h0:0 < xs.length
 ·obtain ⟨off, ha, hc⟩ := r h0
  exact .inr (block_lt_of_cell (hc 0 h0))
 ·exact .inl (by omega)
theorem lstR_of {w:World} {g:Nat} {a:Option Addr} {c:Nat} {xs:List Int} (r:Rd w g a .u8 xs) (z:a=none→c=0) (m:xs.length≤1048576):LstR w ⟨g,a,c,xs⟩:=⟨r,z,m,rd_lt r⟩
theorem txsR_of {w:World} {g:Nat} {a:Option Addr} {ls:List (List UInt8)} (r:RdT w g a ls) (n:ls.length≤8) (z:∀ l ∈ ls,l.length≤1048576):TxsR w g a ls:=⟨r,n,z,by
 by_cases h0:0 < ls.length
 ·exact .inr (r.lt h0)
 ·exact .inl (by omega)⟩
theorem ctsR_of {w:World} {g:Nat} {a:Option Addr} {bs:List (List Int)} {ps:List Plb} (r:RdL w g a bs ps) (n:bs.length≤4) (z:∀ i,i < bs.length→(bs.getD i []).length≤1048576) (y:∀ i,i < bs.length→(ps.getD i plb0).a=none→(ps.getD i plb0).c=0):CtsR w g a bs ps:=⟨r,n,z,y,fun i hi=>rd_lt (r.b i hi)⟩
theorem pr_len {ls:List (List UInt8)} {n:Nat} (h:prB ls n≠false):ls.length≤n:=by
 unfold prB at h
 rw [Bool.ne_false_iff,Bool.and_eq_true] at h
 simpa using h.1
theorem he_pr {v:Int} {r s:Nat} {ho:List UInt8} {ls:List (List UInt8)} {t b:Nat} {g e:Int} (h:heF v r s ho ls t b g e=0):ls.length≤8:=by
 unfold heF at h
 refine pr_len fun c=>?_
 rw [c] at h
 revert h
 split
 ·simp
 ·split
  ·simp
  ·simp
theorem ex_pr {ls:List (List UInt8)} {e:Int} (h:exF ls e=0):ls.length≤8:=by
 unfold exF at h
 refine Nat.le_trans (pr_len (n:=1) fun c=>?_) (by decide)
 rw [c] at h
 simp at h
theorem ce_n {bs:List (List Int)} (h:ceF bs=0):bs.length≤4:=by
 unfold ceF at h
 by_cases c:4 < bs.length
 ·rw [if_neg (by omega), if_pos c] at h
  simp at h
 ·omega
theorem clL_len {bs:List (List Int)} (n:bs.length≤4) (z:∀ i,i < bs.length→(bs.getD i []).length≤1048576):(clL bs).length≤536870912:=by
 have:=lo_sum bs 1048576 z bs.length
 rw [List.take_of_length_le (by simp)] at this
 have:bs.length*(1048576+2)≤4*(1048576+2):=Nat.mul_le_mul_right _ n
 unfold clL
 rw [List.length_append]
 simp only [List.length_cons,List.length_nil]
 omega
theorem heL_len {v:Int} {r s:List Int} {ho:List UInt8} {pr:List (List UInt8)} {t:List Int} {ag ea:Int} {b:List Int} (h1:r.length≤1048576) (h2:s.length≤1048576) (h3:ho.length≤1048576) (h4:pr.length≤8) (h5:∀ l ∈ pr,l.length≤1048576) (h6:t.length≤1048576) (h7:b.length≤1048576):(heL v r s ho pr t ag ea b).length≤536870912:=by
 have:=lsL_len pr h4 h5
 have:(bdL t ag ea b).length≤1048581:=by
  unfold bdL
  split
  ·simp
  ·simp only [List.length_append,bigL_len];omega
 unfold heL
 simp only [List.length_append,fpL_len,shL_len,loL_len]
 omega
set_option maxRecDepth 100000 in
theorem implEncHello (w:World) (p:MQ) (k v:Int) (r s:List Int) (ho:List UInt8) (pr:List (List UInt8)) (ti:List Int) (ag ea:Int) (bi:List Int) (rs:Bool) (ce:List (List Int)) (pf:List Int) (h:HasM w p ⟨k,v,r,s,ho,pr,ti,ag,ea,bi,rs,ce,pf⟩) (i:IsM ⟨k,v,r,s,ho,pr,ti,ag,ea,bi,rs,ce,pf⟩) (z:HasZ p ⟨k,v,r,s,ho,pr,ti,ag,ea,bi,rs,ce,pf⟩) (hk:k=1) :
  Calls Tryz.prog 5 #[.agg (mgV p ⟨k,v,r,s,ho,pr,ti,ag,ea,bi,rs,ce,pf⟩)] w (BodP w (if sameM (helloM ⟨k,v,r,s,ho,pr,ti,ag,ea,bi,rs,ce,pf⟩) ⟨k,v,r,s,ho,pr,ti,ag,ea,bi,rs,ce,pf⟩=true∧heF v r.length s.length ho pr ti.length bi.length ag ea=0 then enL 1 (heL v r s ho pr ti ag ea bi) else [])):=by
 subst hk
 exact encHello w _ _ _ _ _ _ _ _ _ _ _ _ _ rfl _ _ _ (heL v r s ho pr ti ag ea bi) (fun f0=>heL_len i.rL i.sL i.hoL (he_pr f0) i.prZ i.tiL i.biL) (fun W n=>typedHello_any W p _ (h.up n) i rfl) (fun W q n R _ f0=>helloBody_any W q v ⟨p.g2,p.a2,p.c2,r⟩ ⟨p.g3,p.a3,p.c3,s⟩ ⟨p.g6,p.a6,p.c6,ti⟩ ⟨p.g9,p.a9,p.c9,bi⟩ ho p.g5 p.a5 p.c5 pr ag ea (R.cell 0) (R.cell 1) (R.cell 2) (R.cell 3) (R.cell 4) (R.cell 5) (R.cell 6) (R.cell 7) (R.cell 8) (lstR_of (h.up n).r z.z2 i.rL) (lstR_of (h.up n).s z.z3 i.sL) (lstR_of (h.up n).ti z.z6 i.tiL) (lstR_of (h.up n).bi z.z9 i.biL) (txsR_of (h.up n).pr (he_pr f0) i.prZ) i.hoL)
set_option maxRecDepth 100000 in
theorem implEncAnswer (w:World) (p:MQ) (k v:Int) (r s:List Int) (ho:List UInt8) (pr:List (List UInt8)) (ti:List Int) (ag ea:Int) (bi:List Int) (rs:Bool) (ce:List (List Int)) (pf:List Int) (h:HasM w p ⟨k,v,r,s,ho,pr,ti,ag,ea,bi,rs,ce,pf⟩) (i:IsM ⟨k,v,r,s,ho,pr,ti,ag,ea,bi,rs,ce,pf⟩) (z:HasZ p ⟨k,v,r,s,ho,pr,ti,ag,ea,bi,rs,ce,pf⟩) (hk:k=2) :
  Calls Tryz.prog 5 #[.agg (mgV p ⟨k,v,r,s,ho,pr,ti,ag,ea,bi,rs,ce,pf⟩)] w (BodP w (if sameM (answerM ⟨k,v,r,s,ho,pr,ti,ag,ea,bi,rs,ce,pf⟩) ⟨k,v,r,s,ho,pr,ti,ag,ea,bi,rs,ce,pf⟩=true∧fpF v r.length s.length=0 then enL 2 (fpL v r s ++ [if rs=true then 1 else 0]) else [])):=by
 subst hk
 exact encAnswer w _ _ _ _ _ _ _ _ _ _ _ _ _ rfl _ _ _ (fpL v r s ++ [if rs=true then 1 else 0]) (fun _=>by have a1:r.length≤1048576:=i.rL;have a2:s.length≤1048576:=i.sL;rw [List.length_append,fpL_len];simp only [List.length_cons,List.length_nil];omega) (fun W n=>typedAnswer_any W p _ (h.up n) i rfl) (fun W q n R _ _=>answerBody_any W q v ⟨p.g2,p.a2,p.c2,r⟩ ⟨p.g3,p.a3,p.c3,s⟩ rs (R.cell 0) (R.cell 1) (R.cell 2) (R.cell 3) (lstR_of (h.up n).r z.z2 i.rL) (lstR_of (h.up n).s z.z3 i.sL))
set_option maxRecDepth 100000 in
theorem implEncTicket (w:World) (p:MQ) (k v:Int) (r s:List Int) (ho:List UInt8) (pr:List (List UInt8)) (ti:List Int) (ag ea:Int) (bi:List Int) (rs:Bool) (ce:List (List Int)) (pf:List Int) (h:HasM w p ⟨k,v,r,s,ho,pr,ti,ag,ea,bi,rs,ce,pf⟩) (i:IsM ⟨k,v,r,s,ho,pr,ti,ag,ea,bi,rs,ce,pf⟩) (z:HasZ p ⟨k,v,r,s,ho,pr,ti,ag,ea,bi,rs,ce,pf⟩) (hk:k=4) :
  Calls Tryz.prog 5 #[.agg (mgV p ⟨k,v,r,s,ho,pr,ti,ag,ea,bi,rs,ce,pf⟩)] w (BodP w (if sameM (ticketM ⟨k,v,r,s,ho,pr,ti,ag,ea,bi,rs,ce,pf⟩) ⟨k,v,r,s,ho,pr,ti,ag,ea,bi,rs,ce,pf⟩=true∧tiF ag ea r.length ti.length=0 then enL 4 (tkL ag ea r ti) else [])):=by
 subst hk
 exact encTicket w _ _ _ _ _ _ _ _ _ _ _ _ _ rfl _ _ _ (tkL ag ea r ti) (fun _=>by have a1:r.length≤1048576:=i.rL;have a2:ti.length≤1048576:=i.tiL;unfold tkL;simp only [List.length_append,bigL_len,loL_len];omega) (fun W n=>typedTicket_any W p _ (h.up n) i rfl) (fun W q n R _ _=>ticketBody_any W q ag ea ⟨p.g2,p.a2,p.c2,r⟩ ⟨p.g6,p.a6,p.c6,ti⟩ (R.cell 0) (R.cell 1) (R.cell 2) (R.cell 3) (lstR_of (h.up n).r z.z2 i.rL) (lstR_of (h.up n).ti z.z6 i.tiL))
set_option maxRecDepth 100000 in
theorem implEncEnd (w:World) (p:MQ) (k v:Int) (r s:List Int) (ho:List UInt8) (pr:List (List UInt8)) (ti:List Int) (ag ea:Int) (bi:List Int) (rs:Bool) (ce:List (List Int)) (pf:List Int) (h:HasM w p ⟨k,v,r,s,ho,pr,ti,ag,ea,bi,rs,ce,pf⟩) (i:IsM ⟨k,v,r,s,ho,pr,ti,ag,ea,bi,rs,ce,pf⟩) (_z:HasZ p ⟨k,v,r,s,ho,pr,ti,ag,ea,bi,rs,ce,pf⟩) (hk:k=5) :
  Calls Tryz.prog 5 #[.agg (mgV p ⟨k,v,r,s,ho,pr,ti,ag,ea,bi,rs,ce,pf⟩)] w (BodP w (if sameM (endM ⟨k,v,r,s,ho,pr,ti,ag,ea,bi,rs,ce,pf⟩) ⟨k,v,r,s,ho,pr,ti,ag,ea,bi,rs,ce,pf⟩=true∧(0:Int)=0 then enL 5 ([]) else [])):=by
 subst hk
 exact encEnd w _ _ _ _ _ _ _ _ _ _ _ _ _ rfl _ _ _ ([]) (fun _=>by simp) (fun W n=>typedEnd_any W p _ (h.up n) i rfl) (fun W _ _ _ _ _=>endBody_any W _)
set_option maxRecDepth 100000 in
theorem implEncExtras (w:World) (p:MQ) (k v:Int) (r s:List Int) (ho:List UInt8) (pr:List (List UInt8)) (ti:List Int) (ag ea:Int) (bi:List Int) (rs:Bool) (ce:List (List Int)) (pf:List Int) (h:HasM w p ⟨k,v,r,s,ho,pr,ti,ag,ea,bi,rs,ce,pf⟩) (i:IsM ⟨k,v,r,s,ho,pr,ti,ag,ea,bi,rs,ce,pf⟩) (_z:HasZ p ⟨k,v,r,s,ho,pr,ti,ag,ea,bi,rs,ce,pf⟩) (hk:k=8) :
  Calls Tryz.prog 5 #[.agg (mgV p ⟨k,v,r,s,ho,pr,ti,ag,ea,bi,rs,ce,pf⟩)] w (BodP w (if sameM (extrasM ⟨k,v,r,s,ho,pr,ti,ag,ea,bi,rs,ce,pf⟩) ⟨k,v,r,s,ho,pr,ti,ag,ea,bi,rs,ce,pf⟩=true∧exF pr ea=0 then enL 8 (lsL pr ++ bigL ea 1) else [])):=by
 subst hk
 exact encExtras w _ _ _ _ _ _ _ _ _ _ _ _ _ rfl _ _ _ (lsL pr ++ bigL ea 1) (fun f0=>by have a1:=lsL_len pr (ex_pr f0) i.prZ;rw [List.length_append,bigL_len];omega) (fun W n=>typedExtras_any W p _ (h.up n) i rfl) (fun W q n R _ f0=>extrasBody_any W q p.g5 p.a5 p.c5 pr ea (R.cell 0) (R.cell 1) (txsR_of (h.up n).pr (ex_pr f0) i.prZ))
set_option maxRecDepth 100000 in
theorem implEncCerts (w:World) (p:MQ) (k v:Int) (r s:List Int) (ho:List UInt8) (pr:List (List UInt8)) (ti:List Int) (ag ea:Int) (bi:List Int) (rs:Bool) (ce:List (List Int)) (pf:List Int) (h:HasM w p ⟨k,v,r,s,ho,pr,ti,ag,ea,bi,rs,ce,pf⟩) (i:IsM ⟨k,v,r,s,ho,pr,ti,ag,ea,bi,rs,ce,pf⟩) (z:HasZ p ⟨k,v,r,s,ho,pr,ti,ag,ea,bi,rs,ce,pf⟩) (hk:k=11) :
  Calls Tryz.prog 5 #[.agg (mgV p ⟨k,v,r,s,ho,pr,ti,ag,ea,bi,rs,ce,pf⟩)] w (BodP w (if sameM (certsM ⟨k,v,r,s,ho,pr,ti,ag,ea,bi,rs,ce,pf⟩) ⟨k,v,r,s,ho,pr,ti,ag,ea,bi,rs,ce,pf⟩=true∧ceF ce=0 then enL 11 (clL ce) else [])):=by
 subst hk
 exact encCerts w _ _ _ _ _ _ _ _ _ _ _ _ _ rfl _ _ _ (clL ce) (fun f0=>clL_len (ce_n f0) i.ceZ) (fun W n=>typedCerts_any W p _ (h.up n) i rfl) (fun W q n R _ f0=>certsBody_any W q p.g11 p.a11 p.c11 ce p.ps (R.cell 0) (ctsR_of (h.up n).ce (ce_n f0) i.ceZ z.zc))
set_option maxRecDepth 100000 in
theorem implEncProof (w:World) (p:MQ) (k v:Int) (r s:List Int) (ho:List UInt8) (pr:List (List UInt8)) (ti:List Int) (ag ea:Int) (bi:List Int) (rs:Bool) (ce:List (List Int)) (pf:List Int) (h:HasM w p ⟨k,v,r,s,ho,pr,ti,ag,ea,bi,rs,ce,pf⟩) (i:IsM ⟨k,v,r,s,ho,pr,ti,ag,ea,bi,rs,ce,pf⟩) (z:HasZ p ⟨k,v,r,s,ho,pr,ti,ag,ea,bi,rs,ce,pf⟩) (hk:k=15) :
  Calls Tryz.prog 5 #[.agg (mgV p ⟨k,v,r,s,ho,pr,ti,ag,ea,bi,rs,ce,pf⟩)] w (BodP w (if sameM (proofM ⟨k,v,r,s,ho,pr,ti,ag,ea,bi,rs,ce,pf⟩) ⟨k,v,r,s,ho,pr,ti,ag,ea,bi,rs,ce,pf⟩=true∧pfF 64 pf.length=0 then enL 15 (pf) else [])):=by
 subst hk
 exact encProof w _ _ _ _ _ _ _ _ _ _ _ _ _ rfl _ _ _ (pf) (fun _=>by have a1:pf.length≤1048576:=i.pfL;omega) (fun W n=>typedProof_any W p _ (h.up n) i rfl) (fun W q n R _ _=>proofBody_any W q ⟨p.g12,p.a12,p.c12,pf⟩ (lstR_of (h.up n).pf z.z12 i.pfL) (R.cell 0))
set_option maxRecDepth 100000 in
theorem implEncFinished (w:World) (p:MQ) (k v:Int) (r s:List Int) (ho:List UInt8) (pr:List (List UInt8)) (ti:List Int) (ag ea:Int) (bi:List Int) (rs:Bool) (ce:List (List Int)) (pf:List Int) (h:HasM w p ⟨k,v,r,s,ho,pr,ti,ag,ea,bi,rs,ce,pf⟩) (i:IsM ⟨k,v,r,s,ho,pr,ti,ag,ea,bi,rs,ce,pf⟩) (z:HasZ p ⟨k,v,r,s,ho,pr,ti,ag,ea,bi,rs,ce,pf⟩) (hk:k=20) :
  Calls Tryz.prog 5 #[.agg (mgV p ⟨k,v,r,s,ho,pr,ti,ag,ea,bi,rs,ce,pf⟩)] w (BodP w (if sameM (finishedM ⟨k,v,r,s,ho,pr,ti,ag,ea,bi,rs,ce,pf⟩) ⟨k,v,r,s,ho,pr,ti,ag,ea,bi,rs,ce,pf⟩=true∧pfF 32 pf.length=0 then enL 20 (pf) else [])):=by
 subst hk
 exact encFinished w _ _ _ _ _ _ _ _ _ _ _ _ _ rfl _ _ _ (pf) (fun _=>by have a1:pf.length≤1048576:=i.pfL;omega) (fun W n=>typedFinished_any W p _ (h.up n) i rfl) (fun W q n R _ _=>finishedBody_any W q ⟨p.g12,p.a12,p.c12,pf⟩ (lstR_of (h.up n).pf z.z12 i.pfL) (R.cell 0))
set_option maxRecDepth 100000 in
theorem implEncUpdate (w:World) (p:MQ) (k v:Int) (r s:List Int) (ho:List UInt8) (pr:List (List UInt8)) (ti:List Int) (ag ea:Int) (bi:List Int) (rs:Bool) (ce:List (List Int)) (pf:List Int) (h:HasM w p ⟨k,v,r,s,ho,pr,ti,ag,ea,bi,rs,ce,pf⟩) (i:IsM ⟨k,v,r,s,ho,pr,ti,ag,ea,bi,rs,ce,pf⟩) (_z:HasZ p ⟨k,v,r,s,ho,pr,ti,ag,ea,bi,rs,ce,pf⟩) (hk:k=24) :
  Calls Tryz.prog 5 #[.agg (mgV p ⟨k,v,r,s,ho,pr,ti,ag,ea,bi,rs,ce,pf⟩)] w (BodP w (if sameM (updateM ⟨k,v,r,s,ho,pr,ti,ag,ea,bi,rs,ce,pf⟩) ⟨k,v,r,s,ho,pr,ti,ag,ea,bi,rs,ce,pf⟩=true∧upF ea=0 then enL 24 (bigL ea 1) else [])):=by
 subst hk
 exact encUpdate w _ _ _ _ _ _ _ _ _ _ _ _ _ rfl _ _ _ (bigL ea 1) (fun _=>by rw [bigL_len];omega) (fun W n=>typedUpdate_any W p _ (h.up n) i rfl) (fun W q _ R _ _=>updateBody_any W q ea (R.cell 0))
end Go.Proofs.YtmmbkkfjiaoeiaaGreat
namespace Go.Proofs.YtmmbkkfjiaoeiaaGreat
open Go Go.RowKit
structure Plc where
 a:Option Addr
 c:Nat
 q:Nat
def plc0:Plc:=⟨none,0,0⟩
def blC (x:List Int) (q:Plc):Value := .slice q.a x.length q.c
def blCs:List (List Int)→List Plc→List Value
 | x :: xs,q :: qs=>blC x q :: blCs xs qs
 | _,_=>[]
theorem blCs_snoc:∀ (its:List (List Int)) (bs:List Plc) (x:List Int) (q:Plc),bs.length=its.length→blCs (its ++ [x]) (bs ++ [q])=blCs its bs ++ [blC x q]
  | [],[],x,q,_=>rfl
  | [],_ :: _,_,_,h=>by simp at h
  | _ :: _,[],_,_,h=>by simp at h
  | y :: its, p :: bs, x, q, h => by
    show blC y p :: blCs (its ++ [x]) (bs ++ [q])=(blC y p :: blCs its bs) ++ [blC x q]
    rw [blCs_snoc its bs x q (by simpa using h)]
    rfl
theorem blCs_at:∀ (its:List (List Int)) (bs:List Plc) (i:Nat),bs.length=its.length→i < its.length→(blCs its bs)[i]?=some (.slice (bs.getD i plc0).a (its.getD i []).length (bs.getD i plc0).c)
  | [],_,i,_,hi=>by simp at hi
  | _ :: _,[],_,h,_=>by simp at h
  | y :: its,p :: bs,0,h,hi=>rfl
  | y :: its, p :: bs, i + 1, h, hi => by
    show (blCs its bs)[i]?=_
    rw [blCs_at its bs i (by simpa using h) (by simpa using hi)]
    simp
structure Lie (w:World) (x:List Int) (p:Plc):Prop where
 o:Own w p.q p.a .u8 x
 n:p.a=none→p.c=0
 c:x.length≤p.c
theorem Lie.of {w w':World} {x:List Int} {p:Plc} (h:Lie w x p) (hb:0 < x.length→w'.heap[p.q]?=w.heap[p.q]?):Lie w' x p:=by
 refine ⟨?_,h.n,h.c⟩
 by_cases h0:0 < x.length
 ·exact h.o.of_block (hb h0)
 ·exact fun h1=>absurd h1 h0
structure BRow (w:World) (B:Nat) (v:Value) (its:List (List Int)) (bs:List Plc):Prop where
 o:w.ownsRow B 52 1 v its.length (blCs its bs)
 l:bs.length=its.length
 b:∀ i,i < its.length→Lie w (its.getD i []) (bs.getD i plc0)
 h:∀ i,i < its.length→0 < (its.getD i []).length→B≤(bs.getD i plc0).q∧v.ownBlock≠some (bs.getD i plc0).q
 d:∀ i j,i < its.length→j < its.length→i≠j→0 < (its.getD i []).length→0 < (its.getD j []).length→(bs.getD i plc0).q≠(bs.getD j plc0).q
theorem bInfo:(Tryz.prog.info? 52).map (fun i=>(i.zero,i.size,i.bytes))=some (some (.agg #[.slice none 0 0]),1,24):=by kernel_rfl
theorem bUnd:Tryz.prog.underlying 24=some (.slice 52):=Tryz.underlying24
theorem BRow.nil (w:World) (B:Nat):BRow w B (.slice none 0 0) [] [] :=
 ⟨⟨rfl,.inl ⟨rfl,rfl⟩⟩,rfl,fun i h=>absurd h (by simp),fun i h=>absurd h (by simp),fun i j h=>absurd h (by simp)⟩
theorem BRow.lt {w:World} {B:Nat} {v:Value} {its:List (List Int)} {bs:List Plc} (h:BRow w B v its bs) {i:Nat} (hi:i < its.length) (h0:0 < (its.getD i []).length):(bs.getD i plc0).q < w.heap.size:=(h.b i hi).o.rd.lt h0
theorem BRow.of {w w':World} {B:Nat} {v:Value} {its:List (List Int)} {bs:List Plc} (h:BRow w B v its bs) (hb:∀ k,k < w.heap.size→B≤k→w'.heap[k]?=w.heap[k]?):BRow w' B v its bs:=by
 refine ⟨⟨h.o.1,?_⟩,h.l,fun i hi=>?_,h.h,h.d⟩
 ·rcases h.o.2 with h' | ⟨g, cap, cur, rfl, hbg, hg, hnc, hcm, hcs, ht⟩
  ·exact .inl h'
  ·exact .inr ⟨g,cap,cur,rfl,hbg,by rw [hb g ((Array.getElem?_eq_some_iff.1 hg).1) hbg];exact hg,hnc,hcm,hcs,ht⟩
 ·exact (h.b i hi).of fun h0=>hb _ (h.lt hi h0) (h.h i hi h0).1
theorem BRow.app {w : World} {B : Nat} {v : Value} {its : List (List Int)} {bs : List Plc} (h : BRow w B v its bs) (x : List Int) (q : Plc) (hB : B ≤ w.heap.size) (hq : Lie w x q) (M : Nat) (hBM : B ≤ M) (hM1 : ∀ i, i < its.length → 0 < (its.getD i []).length → (bs.getD i plc0).q < M) (hM2 : ∀ k, v.ownBlock = some k → k < M) (hqM : M ≤ q.q) (hl : its.length ≤ 1048576) :
  ∃ v' w',(Builtin.append_ #[24,24] 24 #[v,.slice (some ⟨w.heap.size,0,none⟩) 1 1]).run Tryz.prog (w.alloc (.cells #[.slice q.a x.length q.c] 52)) = .ok v' w'∧BRow w' B v' (its ++ [x]) (bs ++ [q])∧(∀ k,k < w.heap.size→v.ownBlock≠some k→w'.heap[k]?=w.heap[k]?)∧Below B w w'∧(∀ p,p < w.heap.size→v.ownBlock≠some p→v'.ownBlock≠some p):=by
 obtain ⟨i,hi,hz,hs,hby⟩:=info_parts bInfo
 have na:Below w.heap.size w (w.alloc (.cells #[.slice q.a x.length q.c] 52)):=(Below.refl _ _).alloc (Nat.le_refl _) _
 have h0:(w.alloc (.cells #[.slice q.a x.length q.c] 52)).ownsRow B 52 1 v its.length (blCs its bs):=h.o.alloc _
 have hcell:∀ j u,([blC x q])[j]?=some u→(w.alloc (.cells #[.slice q.a x.length q.c] 52)).cell? ((⟨w.heap.size,0,none⟩:Addr).add j)=some u:=by
  intro j u hj
  have e:(w.alloc (.cells #[.slice q.a x.length q.c] 52)).heap[w.heap.size]?=some (.cells #[.slice q.a x.length q.c] 52):=heap_alloc_new w _
  rw [Addr.add_mid,Nat.zero_add,cell_of_row _ _ j _ _ (0,0) e]
  simpa [blC] using hj
 obtain ⟨v',w',h1,h2,h3,h4,h5⟩:=run_append_own_at (P:=Tryz.prog) (w.alloc (.cells #[.slice q.a x.length q.c] 52)) B 24 24 52 i (.agg #[.slice none 0 0]) 1 24 bUnd hi hz hs hby rfl (by decide) v its.length (blCs its bs) h0 ⟨w.heap.size,0,none⟩ 1 1 ([blC x q]) (by simp [blC]) hcell (fun u hu=>by
  simp only [blC,List.mem_cons,List.not_mem_nil,or_false] at hu
  subst hu;rfl) (by unfold maxLen;omega) (by omega) (Nat.le_trans hB na.size)
 have z:(w.alloc (.cells #[.slice q.a x.length q.c] 52)).heap.size=w.heap.size+1:=by simp
 have keep:∀ k,k < w.heap.size→v.ownBlock≠some k→w'.heap[k]?=w.heap[k]?:=fun k hk hne=>(h3.block k (by omega) (fun e=>hne e.symm)).trans (na.block k hk)
 have ob:=h.o.lt
 have A1:∀ j,j < its.length→(bs ++ [q]).getD j plc0=bs.getD j plc0:=fun j hj=>by
  have:j < bs.length:=by rw [h.l];exact hj
  simp [List.getD,List.getElem?_append_left this]
 have A2:∀ j,j < its.length→(its ++ [x]).getD j []=its.getD j []:=fun j hj=>by simp [List.getD,List.getElem?_append_left hj]
 have A3:(bs ++ [q]).getD its.length plc0=q:=by rw [← h.l];simp
 have A4:(its ++ [x]).getD its.length []=x:=by simp
 have hqr:v.ownBlock≠some q.q:=fun e=>by have:=hM2 _ e;omega
 have LT:∀ p,p < w.heap.size→v.ownBlock≠some p→v'.ownBlock≠some p:=fun p hp hn=>by
  rcases h5 with h5 | h5
  ·rw [h5];exact hn
  ·rw [h5]
   intro e
   have e:=Option.some.inj e
   omega
 refine ⟨v',w',h1,⟨?_,by simp [h.l],fun j hj=>?_,fun j hj h0'=>?_,fun j k hj hk hne hj0 hk0=>?_⟩,keep,((Below.refl B w).alloc hB _).grown h3 (by omega) (fun k hk=>(ob k hk).1),LT⟩
 ·show w'.ownsRow B 52 1 v' (its ++ [x]).length (blCs (its ++ [x]) (bs ++ [q]))
  rw [blCs_snoc its bs x q h.l,List.length_append]
  exact h2
 ·by_cases hj' : j < its.length
  ·rw [A1 j hj', A2 j hj']
   exact (h.b j hj').of fun h0'=>keep _ (h.lt hj' h0') (h.h j hj' h0').2
  ·have ej : j = its.length := by simp at hj; omega
   subst ej
   rw [A3,A4]
   exact hq.of fun h0'=>keep _ (hq.o.rd.lt h0') hqr
 ·by_cases hj' : j < its.length
  ·rw [A2 j hj'] at h0'
   rw [A1 j hj']
   exact ⟨(h.h j hj' h0').1,LT _ (h.lt hj' h0') (h.h j hj' h0').2⟩
  ·have ej : j = its.length := by simp at hj; omega
   subst ej
   rw [A4] at h0'
   rw [A3]
   exact ⟨by omega,LT _ (hq.o.rd.lt h0') hqr⟩
 ·by_cases hj' : j < its.length
  ·rw [A2 j hj'] at hj0
   rw [A1 j hj']
   by_cases hk':k < its.length
   ·rw [A2 k hk'] at hk0
    rw [A1 k hk']
    exact h.d j k hj' hk' hne hj0 hk0
   ·have ek : k = its.length := by simp at hk; omega
    subst ek
    rw [A3]
    have:=hM1 j hj' hj0
    omega
  ·have ej : j = its.length := by simp at hj; omega
   subst ej
   have hk':k < its.length:=by simp at hk;omega
   rw [A2 k hk'] at hk0
   rw [A1 k hk',A3]
   have:=hM1 k hk' hk0
   omega
theorem BRow.cells {w:World} {B:Nat} {v:Value} {its:List (List Int)} {bs:List Plc} (h:BRow w B v its bs) (h0:0 < its.length):∃ g c,v = .slice (some ⟨g,0,none⟩) its.length c∧B≤g∧g < w.heap.size∧v.ownBlock=some g∧(∀ i,i < its.length→w.cell? ⟨g,i,none⟩=some (.slice (bs.getD i plc0).a (its.getD i []).length (bs.getD i plc0).c)):=by
 rcases h.o.2 with ⟨_,h'⟩ | ⟨g,cap,cur,rfl,hb,hg,hnc,hcm,hcs,ht⟩
 ·omega
 ·refine ⟨g, cap, rfl, hb, (Array.getElem?_eq_some_iff.1 hg).1, rfl, fun i hi => ?_⟩
  rw [cell_of_row w g _ cur _ (0,0) hg]
  have:(cur.toList.take (its.length*1))[i]?=(blCs its bs)[i]?:=by rw [ht]
  rw [List.getElem?_take,if_pos (by omega),blCs_at its bs i h.l hi] at this
  simpa using this
theorem BRow.slice {w:World} {B:Nat} {v:Value} {its:List (List Int)} {bs:List Plc} (h:BRow w B v its bs):∃ a c,v = .slice a its.length c∧(a=none→c=0):=by
 rcases h.o.2 with ⟨h1,h'⟩ | ⟨g,cap,cur,rfl,hb,hg,hnc,hcm,hcs,ht⟩
 ·exact ⟨none,0,by rw [h1,h'],fun _=>rfl⟩
 ·exact ⟨_,cap,rfl,fun e=>by cases e⟩
structure NoB (p:Nat) (v:Value) (its:List (List Int)) (bs:List Plc):Prop where
 o:v.ownBlock≠some p
 b:∀ i,i < its.length→0 < (its.getD i []).length→(bs.getD i plc0).q≠p
theorem NoB.nil (p:Nat):NoB p (.slice none 0 0) [] []:=⟨(fun e=>nomatch e),fun i h=>absurd h (by simp)⟩
theorem NoB.app {p:Nat} {v v':Value} {its:List (List Int)} {bs:List Plc} (h:NoB p v its bs) (l:bs.length=its.length) (ho:v'.ownBlock≠some p) (x:List Int) (q:Plc) (hq:q.q≠p):NoB p v' (its ++ [x]) (bs ++ [q]):=by
 refine ⟨ho,fun j hj h0=>?_⟩
 by_cases hj':j < its.length
 ·have A1 : (bs ++ [q]).getD j plc0 = bs.getD j plc0 := by
   have:j < bs.length:=by rw [l];exact hj'
   simp [List.getD,List.getElem?_append_left this]
  have A2:(its ++ [x]).getD j []=its.getD j []:=by simp [List.getD,List.getElem?_append_left hj']
  rw [A2] at h0
  rw [A1]
  exact h.b j hj' h0
 ·have ej : j = its.length := by simp at hj; omega
  subst ej
  rw [← l]
  simpa using hq
theorem BRow.base {w:World} {B C:Nat} {v:Value} {its:List (List Int)} {bs:List Plc} (R:BRow w B v its bs) (hC:C≤B):BRow w C v its bs :=
 ⟨⟨R.o.1,by
   rcases R.o.2 with h' | ⟨g,cap,cur,e1,hbg,h3⟩
   ·exact .inl h'
   ·exact .inr ⟨g,cap,cur,e1,by omega,h3⟩⟩,R.l,R.b,fun i hi h0=>⟨by have:=(R.h i hi h0).1;omega,(R.h i hi h0).2⟩,R.d⟩
end Go.Proofs.YtmmbkkfjiaoeiaaGreat
namespace Go.Proofs.YtmmbkkfjiaoeiaaGreat
open Go Go.RowKit
def NBt (b:Nat) (t:TypeId) (zs:List Value):Fact:=⟨fun v w=>∃ q,v = .pointer (some ⟨q,0,none⟩)∧b≤q∧RwC w q zs t,fun n h=>by
 obtain ⟨q,e,l,r⟩:=h
 exact ⟨q,e,l,r.up n⟩⟩
def putAt:List Value→Nat→List Value→List Value
 | zs,_,[]=>zs
 | zs,o,v :: vs=>putAt (zs.set o v) (o+1) vs
theorem putAt_get : ∀ (vs zs : List Value) (o i : Nat), o + vs.length ≤ zs.length → (putAt zs o vs)[i]? = if o ≤ i ∧ i < o + vs.length then vs[i - o]? else zs[i]?
  | [], zs, o, i, _ => by
    rw [if_neg (by simp only [List.length_nil];omega)]
    rfl
  | v :: vs, zs, o, i, h => by
    simp only [List.length_cons] at h ⊢
    rw [putAt,putAt_get vs (zs.set o v) (o+1) i (by rw [List.length_set];omega)]
    by_cases e:o=i
    · subst e
      rw [if_neg (by omega),if_pos (by omega),List.getElem?_set_self (by omega),Nat.sub_self]
      rfl
    · by_cases h2 : o + 1 ≤ i ∧ i < o + 1 + vs.length
      · rw [if_pos h2, if_pos (by omega), show i - o = (i - (o + 1)) + 1 by omega]
        rfl
      · rw [if_neg h2,if_neg (by omega),List.getElem?_set_ne e]
theorem putAt_all {zs cs:List Value} (h:cs.length=zs.length):putAt zs 0 cs=cs:=by
 apply List.ext_getElem?
 intro i
 rw [putAt_get cs zs 0 i (by omega)]
 by_cases hi:i < cs.length
 ·rw [if_pos (by omega)]
  rfl
 ·rw [if_neg (by omega),List.getElem?_eq_none (by omega),List.getElem?_eq_none (by omega)]
theorem RwC.puts {t:TypeId} {q:Nat}:∀ (vs zs:List Value) (w:World) (o:Nat),RwC w q zs t→RwC (w.setCells q o vs) q (putAt zs o vs) t
 | [],_,_,_,h=>h
 | v :: vs,zs,w,o,h=>RwC.puts vs (zs.set o v) (w.setCell ⟨q,o,none⟩ v) (o+1) (h.set o v)
theorem RwC.put {w:World} {q:Nat} {zs cs:List Value} {t:TypeId} (h:RwC w q zs t) (hl:cs.length=zs.length):RwC (w.setCells q 0 cs) q cs t:=by
 have:=RwC.puts cs zs w 0 h
 rwa [putAt_all hl] at this
section
variable {P : Program} {ops : Array Oper} {Q : Exit → Act → World → Prop}
theorem region_newT {a0:Act} {id:Nat} {draw:Bool} {w:World} (k jA jV pA pV:Nat) (o:Oper) (F:Nat→Fact) (t:TypeId) (zs:List Value) (G:Fact) (hm:P.follows .mixedOrders=true) (hT:textOk .any ops a0.tmps.size k=true) (hk:ops[k]?=some o) (hd:o.dst=none)
  (hop:o.op = .store t (.tmp pA) (.tmp pV)) (hi:(P.info? t).map (·.size)=some zs.length) (wA:writes ops jA pA=true) (FA:F jA=NBt w.heap.size t zs) (wV:writes ops jV pV=true) (FV:F jV=G)
  (hG:∀ v W,G.p v W→∃ cs:List Value,v = .agg cs.toArray∧cs.length=zs.length∧cs.toArray.all (·.oneCell')=true) (steps:∀ i,i < k→StepOk P .any ops Q F a0 w i)
  (fin:∀ (vs:Nat→Value) (W W':World) (q:Nat) (cs:List Value),vs pA = .pointer (some ⟨q,0,none⟩)→w.heap.size≤q→Below w.heap.size w W→RwC W q zs t→G.p (.agg cs.toArray) W→Only q W W'→RwC W' q cs t→Below w.heap.size w W'→Q .normal (puts vs a0 ops.toList) W'):(Code.region id ops draw).wp P Q a0 w:=by
 refine region_store k o F hm hT hk hd steps fun a W hb hw hF=>?_
 have e1:=hF jA pA wA
 have e2:=hF jV pV wV
 rw [FA] at e1
 rw [FV] at e2
 obtain ⟨q,e1,hB,hq⟩:=e1
 obtain ⟨cs,ev,hl,h1⟩:=hG _ _ e2
 have TH:W.there q 0 cs.length:=by rw [hl];exact hq.thereG
 refine wp_store_mid _ (.tmp pA) (.tmp pV) hop q 0 cs.toArray e1 ev (by simpa using TH) (by rw [hi];simp [hl]) h1 ?_
 obtain ⟨vs,hvs⟩:∃ vs:Nat→Value,∀ d,a.tmps.getD d undef=vs d:=⟨_,fun _=>rfl⟩
 rw [hd]
 show Q .normal a _
 rw [puts_of hT rfl hb vs hvs]
 have OQ:=only_setG W q cs 0
 have e2':G.p (.agg cs.toArray) W:=by rw [← ev];exact e2
 exact fin vs W _ q cs ((hvs pA).symm.trans e1) hB hw hq e2' OQ (RwC.put hq hl) (hw.trans (OQ.below hB))
end
end Go.Proofs.YtmmbkkfjiaoeiaaGreat
