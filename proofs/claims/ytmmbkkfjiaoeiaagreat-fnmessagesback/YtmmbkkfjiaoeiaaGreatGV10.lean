import Derived.Test.YtmmbkkfjiaoeiaaGreatGV4
import Derived.Test.YtmmbkkfjiaoeiaaGreatGV9
import Derived.Deep.MidRow
import Derived.Test.YtmmbkkfjiaoeiaaGreatGV7
import Derived.Test.YtmmbkkfjiaoeiaaGreatGV2
import Derived.Lib.ConvBytes
import Derived.Test.YtmmbkkfjiaoeiaaGreatGV8
namespace Go.Proofs.YtmmbkkfjiaoeiaaGreat
open Go Go.RowKit
def dgI (v:Value) (n:Int):Prop:=v = .int .i64 n
def dgS (v:Value) (l:List UInt8):Prop:=v = .string ⟨⟨l⟩⟩∧l.length≤300
def dgO (v:Value) (b:Bool):Prop:=v = .bool b
def dgB (W:World) (B:Nat) (v:Value) (Y:List Int):Prop:=RowB W B v Y∧Y.length≤10000∧Byt Y
def dgT (W:World) (B:Nat) (v:Value) (ls:List (List UInt8)):Prop:=RowT W B v ls∧ls.length≤20∧∀ l ∈ ls,l.length≤100
def dgU (W:World) (B:Nat) (v:Value) (ls:List (List UInt8)):Prop:=∃ (a:Option Addr) (c g:Nat),v = .slice a ls.length c∧RdT W g a ls∧ls.length≤c∧ls.length≤30∧(∀ l ∈ ls,l.length≤100)∧(0 < ls.length→B≤g∧∃ cs mk,W.heap[g]?=some (.cells cs 9 mk))
def dgE (W:World) (B:Nat) (v:Value) (its:List (List Int)) (n:Nat):Prop:=∃ (bs:List Plc),BRow W B v its bs∧its.length≤n∧∀ i,i < its.length→Byt (its.getD i [])∧(its.getD i []).length≤10000∧(0 < (its.getD i []).length→∃ cs mk,W.heap[(bs.getD i plc0).q]?=some (.cells cs 5 mk))
def dgC (W:World) (B:Nat) (v:Value) (its:List (List Int)):Prop:=dgE W B v its 20
def dgD (W:World) (B:Nat) (v:Value) (its:List (List Int)):Prop:=∃ (a:Option Addr) (c g:Nat) (ps:List Plb),v = .slice a its.length c∧RdL W g a its ps∧its.length≤30∧(∀ i,i < its.length→Byt (its.getD i [])∧(its.getD i []).length≤10000∧((ps.getD i plb0).a=none→(ps.getD i plb0).c=0)∧(0 < (its.getD i []).length→B≤(ps.getD i plb0).q∧∃ cs mk,W.heap[(ps.getD i plb0).q]?=some (.cells cs 5 mk)))∧(0 < its.length→B≤g∧∃ cs mk,W.heap[g]?=some (.cells cs 52 mk))
def dgK (B:Nat) (X:TypeId) (W W':World):Prop:=∀ g cs t mk,B≤g→W.heap[g]?=some (.cells cs t mk)→t≠X→W'.heap[g]?=W.heap[g]?
theorem heap_lt {W:World} {g:Nat} {x:Obj} (h:W.heap[g]?=some x):g < W.heap.size:=(Array.getElem?_eq_some_iff.1 h).1
theorem dgK.but {B s:Nat} {X:TypeId} {W W':World} (h:But s W W') (hs:s < B):dgK B X W W':=fun g _ _ _ hB hg _=>h.block g (heap_lt hg) (by omega)
theorem dgK.up {B:Nat} {X:TypeId} {W W':World} (h:Below W.heap.size W W'):dgK B X W W':=fun g _ _ _ _ hg _=>h.block g (heap_lt hg)
theorem dgK.onl {B q:Nat} {X:TypeId} {zs:List Value} {W W':World} (h:Only q W W') (hq:RwC W q zs X):dgK B X W W':=fun g cs t mk _ hg ht=>h.block g (fun e=>by
 subst e
 have e2:W.heap[g]?=some (.cells zs.toArray X (0,0)):=hq
 rw [hg] at e2
 exact ht (by injection e2 with e2;injection e2))
theorem dgK.grown {B:Nat} {e:TypeId} {sz n:Nat} {v:Value} {xs:List Value} {W W':World} (h:W.ownsRow B e sz v n xs) (hg:W.grownBy W' v.ownBlock):dgK B e W W':=fun g cs t mk _ hc ht=>hg.block g (heap_lt hc) (fun eo=>by
 rcases h.2 with ⟨rfl,_⟩ | ⟨q,cap,cur,rfl,hb,hq,_⟩
 ·simp [Value.ownBlock] at eo
 ·simp only [Value.ownBlock, Option.some.injEq] at eo
  subst eo
  rw [hc] at hq
  exact ht (by injection hq with hq;injection hq))
theorem dgK.trans {B:Nat} {X:TypeId} {a b c:World} (h:dgK B X a b) (k:dgK B X b c):dgK B X a c:=fun g cs t mk hB hg ht=>by
 have e:=h g cs t mk hB hg ht
 exact (k g cs t mk hB (e.trans hg) ht).trans e
theorem own_dg {W W':World} {B:Nat} {X e:TypeId} {sz:Nat} {v:Value} {m:Nat} {xs:List Value} (h:W.ownsRow B e sz v m xs) (ht:e≠X) (k:dgK B X W W'):W'.ownsRow B e sz v m xs:=by
 refine ⟨h.1,?_⟩
 rcases h.2 with h' | ⟨g,cap,cur,rfl,hb,hg,hnc,hcm,hcs,hk⟩
 ·exact .inl h'
 ·exact .inr ⟨g,cap,cur,rfl,hb,(k g _ _ _ hb hg ht).trans hg,hnc,hcm,hcs,hk⟩
theorem own_base {W:World} {B B':Nat} {e:TypeId} {sz:Nat} {v:Value} {m:Nat} {xs:List Value} (h:W.ownsRow B e sz v m xs) (hB:B'≤B):W.ownsRow B' e sz v m xs:=by
 refine ⟨h.1,?_⟩
 rcases h.2 with h' | ⟨g,cap,cur,rfl,hb,hk⟩
 ·exact .inl h'
 ·exact .inr ⟨g,cap,cur,rfl,by omega,hk⟩
theorem dgB.kp {W W':World} {B:Nat} {X:TypeId} {v:Value} {Y:List Int} (h:dgB W B v Y) (k:dgK B X W W') (n:(5:TypeId)≠X):dgB W' B v Y:=by
 obtain ⟨R,l⟩:=h
 exact ⟨own_dg R n k,l⟩
theorem dgT.kp {W W':World} {B:Nat} {X:TypeId} {v:Value} {ls:List (List UInt8)} (h:dgT W B v ls) (k:dgK B X W W') (n:(9:TypeId)≠X):dgT W' B v ls:=by
 obtain ⟨R,l⟩:=h
 exact ⟨own_dg R n k,l⟩
theorem dgU.kp {W W':World} {B:Nat} {X:TypeId} {v:Value} {ls:List (List UInt8)} (h:dgU W B v ls) (k:dgK B X W W') (n:(9:TypeId)≠X):dgU W' B v ls:=by
 obtain ⟨a,c,g,rfl,R,l1,l2,l3,hg⟩:=h
 by_cases h0:0 < ls.length
 ·obtain ⟨hB, cs, mk, e⟩ := hg h0
  have eb:=k g cs _ mk hB e n
  exact ⟨a,c,g,rfl,R.of_block eb,l1,l2,l3,fun _=>⟨hB,cs,mk,eb.trans e⟩⟩
 ·exact ⟨a,c,g,rfl,fun h1=>absurd h1 h0,l1,l2,l3,fun h1=>absurd h1 h0⟩
theorem dgE.kp {W W':World} {B:Nat} {X:TypeId} {v:Value} {its:List (List Int)} {m:Nat} (h:dgE W B v its m) (k:dgK B X W W') (n:(5:TypeId)≠X∧(52:TypeId)≠X):dgE W' B v its m:=by
 obtain ⟨bs,R,l,b⟩:=h
 have same:∀ i,i < its.length→0 < (its.getD i []).length→W'.heap[(bs.getD i plc0).q]?=W.heap[(bs.getD i plc0).q]?:=fun i hi h0=>by
  obtain ⟨cs,mk,e⟩:=(b i hi).2.2 h0
  exact k _ cs _ mk (R.h i hi h0).1 e n.1
 exact ⟨bs,⟨own_dg R.o n.2 k,R.l,fun i hi=>(R.b i hi).of (same i hi),R.h,R.d⟩,l,fun i hi=>⟨(b i hi).1,(b i hi).2.1,fun h0=>by
  obtain ⟨cs,mk,e⟩:=(b i hi).2.2 h0
  exact ⟨cs,mk,(same i hi h0).trans e⟩⟩⟩
theorem dgC.kp {W W':World} {B:Nat} {X:TypeId} {v:Value} {its:List (List Int)} (h:dgC W B v its) (k:dgK B X W W') (n:(5:TypeId)≠X∧(52:TypeId)≠X):dgC W' B v its:=dgE.kp h k n
theorem dgD.kp {W W':World} {B:Nat} {X:TypeId} {v:Value} {its:List (List Int)} (h:dgD W B v its) (k:dgK B X W W') (n:(5:TypeId)≠X∧(52:TypeId)≠X):dgD W' B v its:=by
 obtain ⟨a,c,g,ps,rfl,R,l2,l3,hg⟩:=h
 have same:∀ i,i < its.length→0 < (its.getD i []).length→W'.heap[(ps.getD i plb0).q]?=W.heap[(ps.getD i plb0).q]?:=fun i hi h0=>by
  obtain ⟨hB,cs,mk,e⟩:=(l3 i hi).2.2.2 h0
  exact k _ cs _ mk hB e n.1
 refine ⟨a,c,g,ps,rfl,⟨fun h0=>?_,fun i hi=>?_⟩,l2,fun i hi=>⟨(l3 i hi).1,(l3 i hi).2.1,(l3 i hi).2.2.1,fun h0=>?_⟩,fun h0=>?_⟩
 ·obtain ⟨hB, cs, mk, e⟩ := hg h0
  have eb:=k g cs _ mk hB e n.2
  obtain ⟨off,ha,hc⟩:=R.r h0
  exact ⟨off,ha,fun i hi=>(World.cell?_of_block (a:=⟨g,off+i,none⟩) eb).trans (hc i hi)⟩
 ·by_cases h0 : 0 < (its.getD i []).length
  ·exact (R.b i hi).of_block (same i hi h0)
  ·exact fun h1=>absurd h1 h0
 ·obtain ⟨hB, cs, mk, e⟩ := (l3 i hi).2.2.2 h0
  exact ⟨hB,cs,mk,(same i hi h0).trans e⟩
 ·obtain ⟨hB, cs, mk, e⟩ := hg h0
  exact ⟨hB,cs,mk,(k g cs _ mk hB e n.2).trans e⟩
theorem RowT.u {W:World} {B:Nat} {v:Value} {ls:List (List UInt8)} (R:RowT W B v ls) (l:ls.length≤30) (b:∀ l ∈ ls,l.length≤100):dgU W B v ls:=by
 rcases R.2 with ⟨rfl,h'⟩ | ⟨g,cap,cur,rfl,hb,hg,hnc,hcm,hcs,hk⟩
 ·have e : ls = [] := List.length_eq_zero_iff.1 h'
  subst e
  exact ⟨none,0,0,rfl,RdT.nil _ _ _,by simp,by simp,b,fun h0=>absurd h0 (by simp)⟩
 ·refine ⟨some ⟨g, 0, none⟩, cap, g, rfl, fun h0 => ?_, hnc, by omega, b, fun _ => ⟨hb, cur, _, hg⟩⟩
  obtain ⟨g',c',e,_,_,hc,_⟩:=RowT.cells R h0
  simp only [Value.slice.injEq,Option.some.injEq,Addr.mk.injEq,and_true] at e
  obtain ⟨rfl,_⟩:=e
  exact ⟨0,rfl,fun i hi=>by rw [Nat.zero_add];exact hc i hi⟩
theorem dgT.rd {W:World} {B:Nat} {v:Value} {ls:List (List UInt8)} (h:dgT W B v ls):dgU W B v ls:=by
 obtain ⟨R,l,b⟩:=h
 exact R.u (by omega) b
def plB (p:Plc):Plb:=⟨p.a,p.c,p.q⟩
theorem plB_at (bs:List Plc) (i:Nat) (hi:i < bs.length):(bs.map plB).getD i plb0=plB (bs.getD i plc0):=by simp [List.getD,hi]
theorem dgE.rd {W:World} {B:Nat} {v:Value} {its:List (List Int)} {m:Nat} (h:dgE W B v its m) (hm:m≤30):dgD W B v its:=by
 obtain ⟨bs,R,l,b⟩:=h
 have hA:∀ i,i < its.length→(bs.map plB).getD i plb0=plB (bs.getD i plc0):=fun i hi=>plB_at bs i (by rw [R.l];exact hi)
 rcases R.o.2 with ⟨rfl,h'⟩ | ⟨g,cap,cur,rfl,hb,hg,hnc,hcm,hcs,hk⟩
 ·have e : its = [] := List.length_eq_zero_iff.1 h'
  subst e
  exact ⟨none,0,0,[],rfl,⟨fun h0=>absurd h0 (by simp),fun i hi=>absurd hi (by simp)⟩,by simp,fun i hi=>absurd hi (by simp),fun h0=>absurd h0 (by simp)⟩
 ·refine ⟨some ⟨g, 0, none⟩, cap, g, bs.map plB, rfl, ⟨fun h0 => ⟨0, rfl, fun i hi => ?_⟩, fun i hi => ?_⟩, by omega, fun i hi => ⟨(b i hi).1, (b i hi).2.1, ?_, ?_⟩, fun _ => ⟨hb, cur, _, hg⟩⟩
  ·rw [Nat.zero_add, cell_of_row W g i cur 52 (0, 0) hg]
   have h2:(cur.toList.take (its.length*1))[i]?=(blCs its bs)[i]?:=by rw [hk]
   rw [List.getElem?_take,if_pos (by omega),blCs_at its bs i R.l hi] at h2
   rw [hA i hi]
   simpa [plB] using h2
  ·rw [hA i hi];exact (R.b i hi).o.rd
  ·rw [hA i hi];exact (R.b i hi).n
  ·rw [hA i hi];exact fun h0=>⟨(R.h i hi h0).1,(b i hi).2.2 h0⟩
theorem dgC.rd {W:World} {B:Nat} {v:Value} {its:List (List Int)} (h:dgC W B v its):dgD W B v its:=dgE.rd h (by decide)
structure MsO (W:World) (B:Nat) (m:Msg) (v0 v1 v2 v3 v4 v5 v6 v7 v8 v9 v10 v11 v12:Value):Prop where
 i0:dgI v0 m.k
 i1:dgI v1 m.v
 b2:dgB W B v2 m.r
 b3:dgB W B v3 m.s
 s4:dgS v4 m.ho
 t5:dgT W B v5 m.pr
 b6:dgB W B v6 m.ti
 i7:dgI v7 m.ag
 i8:dgI v8 m.ea
 b9:dgB W B v9 m.bi
 o10:dgO v10 m.rs
 c11:dgC W B v11 m.ce
 b12:dgB W B v12 m.pf
structure MsF (W:World) (B:Nat) (m:Msg) (v0 v1 v2 v3 v4 v5 v6 v7 v8 v9 v10 v11 v12:Value):Prop where
 i0:dgI v0 m.k
 i1:dgI v1 m.v
 b2:dgB W B v2 m.r
 b3:dgB W B v3 m.s
 s4:dgS v4 m.ho
 t5:dgU W B v5 m.pr
 b6:dgB W B v6 m.ti
 i7:dgI v7 m.ag
 i8:dgI v8 m.ea
 b9:dgB W B v9 m.bi
 o10:dgO v10 m.rs
 c11:dgD W B v11 m.ce
 b12:dgB W B v12 m.pf
theorem MsO.kp {W W':World} {B:Nat} {X:TypeId} {m:Msg} {v0 v1 v2 v3 v4 v5 v6 v7 v8 v9 v10 v11 v12:Value} (h:MsO W B m v0 v1 v2 v3 v4 v5 v6 v7 v8 v9 v10 v11 v12) (k:dgK B X W W') (n:(5:TypeId)≠X∧(9:TypeId)≠X∧(52:TypeId)≠X):MsO W' B m v0 v1 v2 v3 v4 v5 v6 v7 v8 v9 v10 v11 v12:=⟨h.i0,h.i1,h.b2.kp k n.1,h.b3.kp k n.1,h.s4,h.t5.kp k n.2.1,h.b6.kp k n.1,h.i7,h.i8,h.b9.kp k n.1,h.o10,h.c11.kp k ⟨n.1,n.2.2⟩,h.b12.kp k n.1⟩
theorem MsF.kp {W W':World} {B:Nat} {X:TypeId} {m:Msg} {v0 v1 v2 v3 v4 v5 v6 v7 v8 v9 v10 v11 v12:Value} (h:MsF W B m v0 v1 v2 v3 v4 v5 v6 v7 v8 v9 v10 v11 v12) (k:dgK B X W W') (n:(5:TypeId)≠X∧(9:TypeId)≠X∧(52:TypeId)≠X):MsF W' B m v0 v1 v2 v3 v4 v5 v6 v7 v8 v9 v10 v11 v12:=⟨h.i0,h.i1,h.b2.kp k n.1,h.b3.kp k n.1,h.s4,h.t5.kp k n.2.1,h.b6.kp k n.1,h.i7,h.i8,h.b9.kp k n.1,h.o10,h.c11.kp k ⟨n.1,n.2.2⟩,h.b12.kp k n.1⟩
theorem MsO.rd {W:World} {B:Nat} {m:Msg} {v0 v1 v2 v3 v4 v5 v6 v7 v8 v9 v10 v11 v12:Value} (h:MsO W B m v0 v1 v2 v3 v4 v5 v6 v7 v8 v9 v10 v11 v12):MsF W B m v0 v1 v2 v3 v4 v5 v6 v7 v8 v9 v10 v11 v12:=⟨h.i0,h.i1,h.b2,h.b3,h.s4,h.t5.rd,h.b6,h.i7,h.i8,h.b9,h.o10,h.c11.rd,h.b12⟩
theorem neM:(5:TypeId)≠26∧(9:TypeId)≠26∧(52:TypeId)≠26:=by decide
theorem dgB.form {W:World} {B:Nat} {v:Value} {Y:List Int} (h:dgB W B v Y):∃ a l c,v = .slice a l c:=by
 obtain ⟨R,_⟩:=h
 rcases R.2 with ⟨rfl,_⟩ | ⟨g,cap,cur,rfl,_⟩
 ·exact ⟨_,_,_,rfl⟩
 ·exact ⟨_,_,_,rfl⟩
theorem MsF.forms {W:World} {B:Nat} {m:Msg} {v0 v1 v2 v3 v4 v5 v6 v7 v8 v9 v10 v11 v12:Value} (h:MsF W B m v0 v1 v2 v3 v4 v5 v6 v7 v8 v9 v10 v11 v12):∃ (n0 n1:Int) (a2:Option Addr) (l2 c2:Nat) (a3:Option Addr) (l3 c3:Nat) (h4:List UInt8) (a5:Option Addr) (l5 c5:Nat) (a6:Option Addr) (l6 c6:Nat) (n7 n8:Int) (a9:Option Addr) (l9 c9:Nat) (b10:Bool) (a11:Option Addr) (l11 c11:Nat) (a12:Option Addr) (l12 c12:Nat),v0 = .int .i64 n0∧v1 = .int .i64 n1∧v2 = .slice a2 l2 c2∧v3 = .slice a3 l3 c3∧v4 = .string ⟨⟨h4⟩⟩∧v5 = .slice a5 l5 c5∧v6 = .slice a6 l6 c6∧v7 = .int .i64 n7∧v8 = .int .i64 n8∧v9 = .slice a9 l9 c9∧v10 = .bool b10∧v11 = .slice a11 l11 c11∧v12 = .slice a12 l12 c12:=by
 have e0:v0=_:=h.i0
 have e1:v1=_:=h.i1
 have e7:v7=_:=h.i7
 have e8:v8=_:=h.i8
 have e10:v10=_:=h.o10
 have e4:v4=_:=h.s4.1
 obtain ⟨a2,l2,c2,rfl⟩:=h.b2.form
 obtain ⟨a3,l3,c3,rfl⟩:=h.b3.form
 obtain ⟨a5,c5,_,e5,_⟩:=h.t5
 obtain ⟨a6,l6,c6,rfl⟩:=h.b6.form
 obtain ⟨a9,l9,c9,rfl⟩:=h.b9.form
 obtain ⟨a11,c11,_,_,e11,_⟩:=h.c11
 obtain ⟨a12,l12,c12,rfl⟩:=h.b12.form
 exact ⟨_,_,_,_,_,_,_,_,_,_,_,_,_,_,_,_,_,_,_,_,_,_,_,_,_,_,_,e0,e1,rfl,rfl,e4,e5,rfl,e7,e8,rfl,e10,e11,rfl⟩
theorem MsF.one {W:World} {B:Nat} {m:Msg} {v0 v1 v2 v3 v4 v5 v6 v7 v8 v9 v10 v11 v12:Value} (h:MsF W B m v0 v1 v2 v3 v4 v5 v6 v7 v8 v9 v10 v11 v12):(#[v0,v1,v2,v3,v4,v5,v6,v7,v8,v9,v10,v11,v12]:Array Value).all (·.oneCell')=true:=by
 obtain ⟨n0,n1,a2,l2,c2,a3,l3,c3,h4,a5,l5,c5,a6,l6,c6,n7,n8,a9,l9,c9,b10,a11,l11,c11,a12,l12,c12,rfl,rfl,rfl,rfl,rfl,rfl,rfl,rfl,rfl,rfl,rfl,rfl,rfl⟩:=h.forms
 simp [Value.oneCell']
theorem MsF.msg {W:World} {B:Nat} {m:Msg} {v0 v1 v2 v3 v4 v5 v6 v7 v8 v9 v10 v11 v12:Value} (h:MsF W B m v0 v1 v2 v3 v4 v5 v6 v7 v8 v9 v10 v11 v12):∃ (p:MQ),#[v0,v1,v2,v3,v4,v5,v6,v7,v8,v9,v10,v11,v12]=mgV p m∧HasM W p m∧IsM m∧HasZ p m:=by
 obtain ⟨k,v,X2,X3,l4,X5,X6,n7,n8,X9,b,X11,X12⟩:=m
 obtain ⟨e0,e1,⟨R2,l2,y2⟩,⟨R3,l3,y3⟩,⟨e4,m4⟩,⟨a5,c5,g5,rfl,r5,k5,j5,m5,_⟩,⟨R6,l6,y6⟩,e7,e8,⟨R9,l9,y9⟩,e10,⟨a11,c11,g11,ps,rfl,r11,j11,m11,_⟩,⟨R12,l12,y12⟩⟩:=h
 have e0:v0 = .int .i64 k:=e0
 have e1:v1 = .int .i64 v:=e1
 have e4:v4 = .string ⟨⟨l4⟩⟩:=e4
 have e7:v7 = .int .i64 n7:=e7
 have e8:v8 = .int .i64 n8:=e8
 have e10:v10 = .bool b:=e10
 subst e0 e1 e4 e7 e8 e10
 dsimp only at l2 l3 l6 l9 l12 m4 j5 j11 m5 m11 k5
 obtain ⟨a2,c2,g2,rfl,o2,z2,_⟩:=R2.own
 obtain ⟨a3,c3,g3,rfl,o3,z3,_⟩:=R3.own
 obtain ⟨a6,c6,g6,rfl,o6,z6,_⟩:=R6.own
 obtain ⟨a9,c9,g9,rfl,o9,z9,_⟩:=R9.own
 obtain ⟨a12,c12,g12,rfl,o12,z12,_⟩:=R12.own
 refine ⟨⟨a2,c2,g2,a3,c3,g3,a5,c5,g5,a6,c6,g6,a9,c9,g9,a11,c11,g11,a12,c12,g12,ps⟩,rfl,⟨o2.rd,o3.rd,r5,o6.rd,o9.rd,r11,o12.rd,k5⟩,⟨y2,y3,y6,y9,y12,fun i hi=>(m11 i hi).1,?_,?_,?_,?_,?_,?_,?_,fun i hi=>?_,?_,fun l hl=>?_⟩,⟨z2,z3,z6,z9,z12,fun i hi=>(m11 i hi).2.2.1⟩⟩
 ·show X2.length≤_;omega
 ·show X3.length≤_;omega
 ·show X5.length≤_;omega
 ·show X6.length≤_;omega
 ·show X9.length≤_;omega
 ·show X11.length≤_;omega
 ·show X12.length≤_;omega
 ·have := (m11 i hi).2.1
  show (X11.getD i []).length≤_
  omega
 ·show l4.length≤_;omega
 ·have := m5 l hl
  omega
theorem dgB.nil (W:World) (B:Nat):dgB W B (.slice none 0 0) []:=⟨⟨rfl,.inl ⟨rfl,rfl⟩⟩,by simp,fun i=>by simp⟩
theorem dgT.nil (W:World) (B:Nat):dgT W B (.slice none 0 0) []:=⟨⟨rfl,.inl ⟨rfl,rfl⟩⟩,by simp,fun l hl=>absurd hl (by simp)⟩
theorem dgC.nil (W:World) (B:Nat):dgC W B (.slice none 0 0) []:=⟨[],BRow.nil W B,by simp,fun i hi=>absurd hi (by simp)⟩
theorem dgS.nil:dgS (.string ⟨#[]⟩) []:=⟨rfl,by simp⟩
theorem dgB.row {W:World} {B B':Nat} {v:Value} {ys:List Int} (h:RowB W B v ys) (l:ys.length≤10000) (b:Byt ys) (hB:B'≤B):dgB W B' v ys:=⟨own_base h hB,l,b⟩
theorem RwC.all13 {w:World} {q:Nat} {t:TypeId} {u0 u1 u2 u3 u4 u5 u6 u7 u8 u9 u10 u11 u12 v0 v1 v2 v3 v4 v5 v6 v7 v8 v9 v10 v11 v12:Value} (h:RwC w q [u0,u1,u2,u3,u4,u5,u6,u7,u8,u9,u10,u11,u12] t):RwC (w.setCells q 0 [v0,v1,v2,v3,v4,v5,v6,v7,v8,v9,v10,v11,v12]) q [v0,v1,v2,v3,v4,v5,v6,v7,v8,v9,v10,v11,v12] t:=RwC.puts [v0,v1,v2,v3,v4,v5,v6,v7,v8,v9,v10,v11,v12] [u0,u1,u2,u3,u4,u5,u6,u7,u8,u9,u10,u11,u12] w 0 h
structure Dq (w W:World) (s g:Nat) (a:Option Addr) (c:Nat) (xs:List Int) (B:Nat) (t:Int):Prop where
 d:Drm W s g a c xs t
 sB:s < B
 gB:0 < xs.length→g < B
 wB:B≤w.heap.size
 os:W.os=w.os
 tape:W.tape=w.tape
 output:W.output=w.output
 size:w.heap.size≤W.heap.size
 low:∀ k,k < B→k≠s→W.heap[k]?=w.heap[k]?
 typ:∀ k cs t mk,k < w.heap.size→k≠s→w.heap[k]?=some (.cells cs t mk)→t≠9→t≠52→W.heap[k]?=w.heap[k]?
theorem Dq.start {w:World} {s g:Nat} {a:Option Addr} {c:Nat} {xs:List Int} {B:Nat} {t:Int} (d:Drm w s g a c xs t) (sB:s < B) (gB:0 < xs.length→g < B) (wB:B≤w.heap.size):Dq w w s g a c xs B t:=⟨d,sB,gB,wB,rfl,rfl,rfl,Nat.le_refl _,fun _ _ _=>rfl,fun _ _ _ _ _ _ _ _ _=>rfl⟩
theorem Drm.keep {W W':World} {s g:Nat} {a:Option Addr} {c:Nat} {xs:List Int} {t:Int} (d:Drm W s g a c xs t) (hs:W'.heap[s]?=W.heap[s]?) (hg:0 < xs.length→W'.heap[g]?=W.heap[g]?):Drm W' s g a c xs t :=
 ⟨d.S.of_block hs,by
  by_cases h0:0 < xs.length
  ·exact d.R.of_block (hg h0)
  ·exact fun h1=>absurd h1 h0,d.ne,d.hb,d.hl,d.t0⟩
theorem Dq.but {w W W':World} {s g:Nat} {a:Option Addr} {c:Nat} {xs:List Int} {B:Nat} {t u:Int} (h:Dq w W s g a c xs B t) (n:But s W W') (d:Drm W' s g a c xs u):Dq w W' s g a c xs B u :=
 ⟨d,h.sB,h.gB,h.wB,n.os.trans h.os,n.tape.trans h.tape,n.output.trans h.output,Nat.le_trans h.size n.size,fun k hk hn=>(n.block k (by have:=h.wB;have:=h.size;omega) hn).trans (h.low k hk hn),fun k cs t mk hk hn e h1 h2=>(n.block k (by have:=h.size;omega) hn).trans (h.typ k cs t mk hk hn e h1 h2)⟩
theorem Dq.onl {w W W':World} {s g q:Nat} {a:Option Addr} {c:Nat} {xs:List Int} {B:Nat} {t:Int} (h:Dq w W s g a c xs B t) (n:Only q W W') (hq:w.heap.size≤q):Dq w W' s g a c xs B t :=
 ⟨h.d.keep (n.block s (by have:=h.sB;have:=h.wB;omega)) (fun h0=>n.block g (by have:=h.gB h0;have:=h.wB;omega)),h.sB,h.gB,h.wB,n.os.trans h.os,n.tape.trans h.tape,n.output.trans h.output,by rw [n.size];exact h.size,fun k hk hn=>(n.block k (by have:=h.wB;omega)).trans (h.low k hk hn),fun k cs t mk hk hn e h1 h2=>(n.block k (by omega)).trans (h.typ k cs t mk hk hn e h1 h2)⟩
theorem Dq.up {w W W':World} {s g:Nat} {a:Option Addr} {c:Nat} {xs:List Int} {B:Nat} {t:Int} (h:Dq w W s g a c xs B t) (n:Below W.heap.size W W'):Dq w W' s g a c xs B t:=h.but (But.ofBelow n) (h.d.up n)
theorem Dq.row {w W W':World} {s g:Nat} {a:Option Addr} {c:Nat} {xs:List Int} {B:Nat} {t:Int} {e:TypeId} {sz m:Nat} {v:Value} {ys:List Value} (h:Dq w W s g a c xs B t) (r:W.ownsRow B e sz v m ys) (he:e=9∨e=52) (n:W.grownBy W' v.ownBlock):Dq w W' s g a c xs B t:=by
 have lo:∀ k,k < B→W'.heap[k]?=W.heap[k]?:=fun k hk=>n.block k (by have:=h.wB;have:=h.size;omega) (fun eo=>by
  rcases r.2 with ⟨rfl,_⟩ | ⟨q,cap,cur,rfl,hb,hq,_⟩
  ·simp [Value.ownBlock] at eo
  ·simp only [Value.ownBlock, Option.some.injEq] at eo
   omega)
 refine ⟨h.d.keep (lo s h.sB) (fun h0=>lo g (h.gB h0)),h.sB,h.gB,h.wB,n.os.trans h.os,n.tape.trans h.tape,n.output.trans h.output,Nat.le_trans h.size n.size,fun k hk hn=>(lo k hk).trans (h.low k hk hn),fun k cs t mk hk hn ek h1 h2=>?_⟩
 have e1:=h.typ k cs t mk hk hn ek h1 h2
 refine (n.block k (by have:=h.size;omega) (fun eo=>?_)).trans e1
 rcases r.2 with ⟨rfl,_⟩ | ⟨q,cap,cur,rfl,hb,hq,_⟩
 ·simp [Value.ownBlock] at eo
 ·simp only [Value.ownBlock, Option.some.injEq] at eo
  subst eo
  have e2:=e1.trans ek
  rw [hq] at e2
  have e3:e=t:=by injection e2 with e2;injection e2
  subst e3
  rcases he with rfl | rfl
  ·exact h1 rfl
  ·exact h2 rfl
theorem Dq.call {w W W':World} {s g:Nat} {a:Option Addr} {c:Nat} {xs:List Int} {B:Nat} {t u:Int} (h:Dq w W s g a c xs B t) (k:Dq W W' s g a c xs B u):Dq w W' s g a c xs B u :=
 ⟨k.d,h.sB,h.gB,h.wB,k.os.trans h.os,k.tape.trans h.tape,k.output.trans h.output,Nat.le_trans h.size k.size,fun i hi hn=>(k.low i hi hn).trans (h.low i hi hn),fun i cs t mk hi hn e h1 h2=>by
  have e1:=h.typ i cs t mk hi hn e h1 h2
  exact (k.typ i cs t mk (by have:=h.size;omega) hn (e1.trans e) h1 h2).trans e1⟩
theorem Dq.out {w W:World} {s g:Nat} {a:Option Addr} {c:Nat} {xs:List Int} {t:Int} (h:Dq w W s g a c xs w.heap.size t):But s w W:=⟨h.os,h.tape,h.output,h.size,fun k hk hn=>h.low k hk hn⟩
theorem RwC.dq {w W:World} {s g:Nat} {a:Option Addr} {c:Nat} {xs:List Int} {B:Nat} {t:Int} {q:Nat} {zs:List Value} (h:RwC w q zs 26) (k:Dq w W s g a c xs B t) (hq:q≠s):RwC W q zs 26:=(k.typ q _ _ _ h.lt hq h (by decide) (by decide)).trans h
theorem MsO.fin {w W:World} {s g q:Nat} {a:Option Addr} {c:Nat} {xs:List Int} {B:Nat} {t:Int} {m:Msg} {u0 u1 u2 u3 u4 u5 u6 u7 u8 u9 u10 u11 u12 v0 v1 v2 v3 v4 v5 v6 v7 v8 v9 v10 v11 v12:Value} (M:MsO W B m v0 v1 v2 v3 v4 v5 v6 v7 v8 v9 v10 v11 v12) (Q:RwC W q [u0,u1,u2,u3,u4,u5,u6,u7,u8,u9,u10,u11,u12] 26) (D:Dq w W s g a c xs B t) (hq:w.heap.size≤q):W.there q 0 13∧(#[v0,v1,v2,v3,v4,v5,v6,v7,v8,v9,v10,v11,v12]:Array Value).all (·.oneCell')=true∧(W.setCells q 0 [v0,v1,v2,v3,v4,v5,v6,v7,v8,v9,v10,v11,v12]).rangeAt q 0 [v0,v1,v2,v3,v4,v5,v6,v7,v8,v9,v10,v11,v12]∧Hid (MsO (W.setCells q 0 [v0,v1,v2,v3,v4,v5,v6,v7,v8,v9,v10,v11,v12]) B m v0 v1 v2 v3 v4 v5 v6 v7 v8 v9 v10 v11 v12)∧Hid (Dq w (W.setCells q 0 [v0,v1,v2,v3,v4,v5,v6,v7,v8,v9,v10,v11,v12]) s g a c xs B t) :=
 have OS:=only_setG W q [v0,v1,v2,v3,v4,v5,v6,v7,v8,v9,v10,v11,v12] 0
 ⟨Q.thereG,M.rd.one,(RwC.all13 Q).rangeG,M.kp (dgK.onl OS Q) neM,D.onl OS hq⟩
theorem MsF.fin {w W:World} {s g q:Nat} {a:Option Addr} {c:Nat} {xs:List Int} {B:Nat} {t:Int} {m:Msg} {u0 u1 u2 u3 u4 u5 u6 u7 u8 u9 u10 u11 u12 v0 v1 v2 v3 v4 v5 v6 v7 v8 v9 v10 v11 v12:Value} (M:MsF W B m v0 v1 v2 v3 v4 v5 v6 v7 v8 v9 v10 v11 v12) (Q:RwC W q [u0,u1,u2,u3,u4,u5,u6,u7,u8,u9,u10,u11,u12] 26) (D:Dq w W s g a c xs B t) (hq:w.heap.size≤q):W.there q 0 13∧(#[v0,v1,v2,v3,v4,v5,v6,v7,v8,v9,v10,v11,v12]:Array Value).all (·.oneCell')=true∧(W.setCells q 0 [v0,v1,v2,v3,v4,v5,v6,v7,v8,v9,v10,v11,v12]).rangeAt q 0 [v0,v1,v2,v3,v4,v5,v6,v7,v8,v9,v10,v11,v12]∧Hid (MsF (W.setCells q 0 [v0,v1,v2,v3,v4,v5,v6,v7,v8,v9,v10,v11,v12]) B m v0 v1 v2 v3 v4 v5 v6 v7 v8 v9 v10 v11 v12)∧Hid (Dq w (W.setCells q 0 [v0,v1,v2,v3,v4,v5,v6,v7,v8,v9,v10,v11,v12]) s g a c xs B t) :=
 have OS:=only_setG W q [v0,v1,v2,v3,v4,v5,v6,v7,v8,v9,v10,v11,v12] 0
 ⟨Q.thereG,M.one,(RwC.all13 Q).rangeG,M.kp (dgK.onl OS Q) neM,D.onl OS hq⟩
theorem sS (x y:Value) (n:Nat) (l:List Value):(y :: l).set (n+1) x=y :: l.set n x:=rfl
theorem sZ (x y:Value) (l:List Value):(y :: l).set 0 x=x :: l:=rfl
theorem setQ {w W:World} {s g p q:Nat} {a:Option Addr} {c:Nat} {xs:List Int} {B:Nat} {t:Int} {cs zs:List Value} {ty:TypeId} (i:Nat) (x:Value) (T:RwC W p cs ty) (Q:RwC W q zs ty) (D:Dq w W s g a c xs B t) (hn:q≠p) (hp:w.heap.size≤p) :
  W.frozen? ⟨p,i,none⟩=false∧Only p W (W.setCell ⟨p,i,none⟩ x)∧RwC (W.setCell ⟨p,i,none⟩ x) p (cs.set i x) ty∧RwC (W.setCell ⟨p,i,none⟩ x) q zs ty∧Dq w (W.setCell ⟨p,i,none⟩ x) s g a c xs B t∧(W.setCell ⟨p,i,none⟩ x).heap.size=W.heap.size :=
 have OS:=Only.setCell W p i x
 ⟨T.free i,OS,T.set i x,Q.onl OS hn,D.onl OS hp,OS.size⟩
end Go.Proofs.YtmmbkkfjiaoeiaaGreat
namespace Go.Proofs.YtmmbkkfjiaoeiaaGreat
open Go Go.RowKit
theorem RowT.but {w w':World} {base s:Nat} {v:Value} {ls:List (List UInt8)} (h:RowT w base v ls) (n:But s w w') (hs:s < base):RowT w' base v ls:=own_dg (X:=26) h (by decide) (dgK.but n hs)
theorem RowT.form {W:World} {B:Nat} {v:Value} {ls:List (List UInt8)} (R:RowT W B v ls):∃ a c g,v = .slice a ls.length c∧RdT W g a ls:=by
 rcases R.2 with ⟨rfl,h'⟩ | ⟨g,cap,cur,rfl,_⟩
 ·have e : ls = [] := List.length_eq_zero_iff.1 h'
  subst e
  exact ⟨none,0,0,rfl,RdT.nil _ _ _⟩
 ·refine ⟨_, cap, g, rfl, fun h0 => ?_⟩
  obtain ⟨g',c',e,_,_,hc,_⟩:=RowT.cells R h0
  simp only [Value.slice.injEq,Option.some.injEq,Addr.mk.injEq,and_true] at e
  obtain ⟨rfl,_⟩:=e
  exact ⟨0,rfl,fun i hi=>by rw [Nat.zero_add];exact hc i hi⟩
set_option maxRecDepth 100000 in
set_option maxHeartbeats 4000000 in
theorem drawProt_M {w : World} {s g : Nat} {a : Option Addr} {c : Nat} {xs : List Int} {t : Int} (d : Drm w s g a c xs t) (t1 : t ≤ 1000000) (n : Nat) (hn : n ≤ 4) :
  Calls Tryz.prog 56 #[.pointer (some ⟨s,0,none⟩),.int .i64 (n:Int)] w fun e w'=>∃ (v:Value) (ps:List (List UInt8)) (u:Int),e = .returned v∧prF xs t n=(ps,u)∧dgT w' w.heap.size v ps∧u≤t+6∧Drm w' s g a c xs u∧But s w w':=by
 have ls:=d.S.lt
 have lg:=d.R.lt
 have HB:Hid (BlkT (w.alloc (.cells (poolP.map tx).toArray 9)) w.heap.size poolP):=heap_alloc_new w _
 have HN:Hid (Below w.heap.size w (w.alloc (.cells (poolP.map tx).toArray 9))):=(Below.refl _ _).alloc (Nat.le_refl _) _
 have HS:Hid ((w.alloc (.cells (poolP.map tx).toArray 9)).heap.size=w.heap.size+1):=by show _=_;simp
 simp only [poolP,List.map_cons,List.map_nil,tx] at HB HN HS
 have D0:=hide d
 have e1:IntKind.i64.wrap ((n:Int)+1)=(n:Int)+1:=by rw [IntKind.wrap_i64];omega
 have e2:wrap64 ((n:Int)+1)=(n:Int)+1:=by unfold wrap64;omega
 clear d
 go_enter Tryz.func56,Tryz.ntmps56
 go_upto_region 2 with fail
 generalize w.alloc (.cells #[.string (ByteArray.mk #[104,50]),.string (ByteArray.mk #[109,97,105,108]),.string (ByteArray.mk #[0]),.string (ByteArray.mk #[97]),.string (ByteArray.mk #[112,114,111,116,111,99,111,108,32,119,105,116,104,32,97,32,108,111,110,103,32,110,97,109,101,32,111,102,32,51,50,46])] 9)=w1 at *
 have zs:=HS.out
 have N2:Hid (Below w.heap.size w (w1.alloc (.cells #[] 9))):=HN.out.alloc (by omega) _
 have R2:Hid (RowT (w1.alloc (.cells #[] 9)) (w.heap.size+1) (.slice (some ⟨w.heap.size+1,0,none⟩) 0 0) []):=by
  have h:RowT (w1.alloc (.cells #[] 9)) w1.heap.size (.slice (some ⟨w1.heap.size,0,none⟩) 0 0) []:=World.ownsRow_lit w1 #[] 0 (Nat.le_refl _) (by unfold maxLen;omega) (by simp)
  rw [zs] at h
  exact h
 have B2:Hid (BlkT (w1.alloc (.cells #[] 9)) w.heap.size poolP):=BlkT.up HB.out ((Below.refl _ _).alloc (Nat.le_refl _) _)
 clear HB HN HS
 go_upto_region 3 with fail
 have S2:w.heap.size+1≤(w1.alloc (.cells #[] 9)).heap.size:=by simp;omega
 generalize w1.alloc (.cells #[] 9)=w2 at *
 clear zs
 have U2:Hid (But s w w2):=But.ofBelow N2.out
 have D2:=hide (D0.out.up N2.out)
 clear N2 D0
 go_wp2_with fail
 refine (next_M D2.out (by omega) (by omega) (by omega)).mono ?_
 rintro e w3 ⟨r,rfl,er,hr,d3,b3⟩
 have EP:Hid (prF xs t n=prG xs r [] (t+1)):=by show _=_;unfold prF;rw [er];rfl
 clear er
 have R3:=R2.out.but b3 (by omega)
 have B3:BlkT w3 w.heap.size poolP:=(b3.block _ B2.out.lt (by omega)).trans B2.out
 have U3:=U2.out.trans b3
 clear R2 B2 U2 D2 b3
 go_wp2
 go_loopw [6,7] (fun v i wr=>∃ (k:Nat) (ps:List (List UInt8)) (u:Int),i = .int .i64 k∧RowT wr (w.heap.size+1) v ps∧ps.length+k≤4∧(∀ l ∈ ps,l.length≤100)∧u+k≤t+6∧Drm wr s g a c xs u∧But s w wr∧BlkT wr w.heap.size poolP∧Hid (prF xs t n=prG xs k ps u)) (fun _ i _=>(intOf i).toNat)
 case atStart=>exact ⟨r,[],_,rfl,R3,by simp;omega,fun l hl=>absurd hl (by simp),by omega,d3,U3,B3,EP⟩
 case round =>
  clear R3 d3 U3 B3 hr EP
  obtain ⟨k,ps,u,rfl,R,hpl,hpz,hu,D,U,B,EP⟩:=hrel
  by_cases hk:k=0
  ·subst hk
   rw [show ((0:Nat):Int)=0 from rfl]
   have FIN:=hide (show dgT wr w.heap.size _ ps from ⟨own_base R (by omega),by omega,hpz⟩)
   go_wp2
   go_ret
   exact ⟨_,ps,u,rfl,EP.out,FIN.out,by omega,D,U⟩
  ·have tk : decide ((0 : Int) < (k : Int)) = true := decide_eq_true (by omega)
   have tk':0 < k:=by omega
   have sk:IntKind.i64.wrap ((k:Int) - 1)=((k - 1:Nat):Int):=by rw [IntKind.wrap_i64];omega
   have sk':wrap64 ((k:Int) - 1)=((k - 1:Nat):Int):=by unfold wrap64;omega
   have ob:=R.lt
   go_wp2_with fail
   refine (next_M D (by omega) (by decide) (by decide)).mono ?_
   rintro e w4 ⟨i,rfl,ei,hi,d4,b4⟩
   have EH:Hid (prF xs t n=if poolP.getD i [] ∈ ps then prG xs (k - 1) ps (u+1) else prG xs (k - 1) (ps ++ [poolP.getD i []]) (u+1)):=by
    have h:=EP.out
    rw [show k=(k - 1)+1 by omega,prG,ei] at h
    exact h
   clear ei EP
   have R4:=R.but b4 (by omega)
   have B4:BlkT w4 w.heap.size poolP:=(b4.block _ B.lt (by omega)).trans B
   have U4:=U.trans b4
   have c4:=B4.cell (i:=i) (by show i < 5;omega)
   have pl:=poolP_len i (by omega)
   generalize poolP.getD i []=x at *
   unfold tx at c4
   have hi2:(i:Int) < 5:=by omega
   have S4:=U4.size
   clear R B U b4 D hi
   have RH:=hide R4
   have DH:=hide d4
   have UH:=hide U4
   have BH:=hide B4
   obtain ⟨au,cu,gu,hv,rd⟩:=R4.form
   subst hv
   have rdH:=hide rd
   clear R4 d4 U4 B4 rd
   go_wp2
   go_loopw [9,10] (fun f j wq=>wq=w4∧∃ (b:Bool) (m:Nat),f = .bool b∧j = .int .i64 m∧m≤ps.length∧Hid (b=decide (x ∉ ps.take m))) (fun _ j _=>ps.length - (intOf j).toNat)
   case atStart=>exact ⟨rfl,true,0,rfl,rfl,Nat.zero_le _,by show _=_;simp⟩
   case round =>
    obtain ⟨eq4,b,m,rfl,rfl,hm,HB⟩:=hrel
    replace eq4:=eq4.symm
    subst eq4
    by_cases hlt:m < ps.length
    ·obtain ⟨off, rfl, hc⟩ := rdH.out (by omega)
     have c1:=hc m hlt
     unfold tx at c1
     have HT:Hid (ps.take (m+1)=ps.take m ++ [ps.getD m []]):=by show _=_;rw [List.take_add_one,List.getElem?_eq_getElem hlt,List.getD_eq_getElem?_getD,List.getElem?_eq_getElem hlt];rfl
     generalize ps.getD m []=y at *
     have t0:(m:Int) < (ps.length:Int):=by omega
     clear hc
     by_cases hy:y=x
     ·have HF : Hid (false = decide (x ∉ ps.take (m + 1))) := by
       show _=_
       rw [HT.out,hy]
       simp
      subst hy
      have ty:decide (y=y)=true:=decide_eq_true rfl
      clear HB HT
      go_wp2
      all_goals exact ⟨⟨trivial,_,m+1,rfl,by first | rfl | go_num,by omega,HF⟩,by simp [intOf];omega⟩
     ·have HF : Hid (b = decide (x ∉ ps.take (m + 1))) := by
       show _=_
       rw [HT.out,HB.out]
       have:(x ∉ ps.take m)↔(x ∉ ps.take m ++ [y]):=by
        simp only [List.mem_append,List.mem_singleton,not_or]
        exact ⟨fun h=>⟨h,fun e=>hy e.symm⟩,fun h=>h.1⟩
       exact decide_eq_decide.2 this
      have ty:decide (y=x)=false:=decide_eq_false hy
      clear HB HT
      go_wp2
      ·rename_i hb
       exact absurd (eq_of_beq hb) hy
      all_goals exact ⟨⟨trivial,_,m+1,rfl,by first | rfl | go_num,by omega,HF⟩,by simp [intOf];omega⟩
    ·obtain rfl : m = ps.length := by omega
     have HM:=HB.out
     rw [List.take_length] at HM
     cases b
     ·have EQ : Hid (prF xs t n = prG xs (k - 1) ps (u + 1)) := by
       have h:=of_decide_eq_false HM.symm
       show _=_
       rw [EH.out,if_pos (Decidable.not_not.1 h)]
      clear HB HM EH
      go_wp2
      go_roundw
      case rel=>exact ⟨k - 1,ps,_,by first | rfl | go_num,RH.out,by omega,hpz,by omega,DH.out,UH.out,BH.out,EQ⟩
      case measure=>simp [intOf];omega
     ·have EQ : Hid (prF xs t n = prG xs (k - 1) (ps ++ [x]) (u + 1)) := by
       have h:=of_decide_eq_true HM.symm
       show _=_
       rw [EH.out,if_neg h]
      clear HB HM EH
      obtain ⟨v',w5,h1,R5,N5⟩:=append_tx w4 23 (w.heap.size+1) _ ps RH.out x (by omega) (by have:=BH.out.lt;omega)
      have h1':(Builtin.append_ #[23,23] 23 #[.slice au ps.length cu,.slice (some ⟨w4.heap.size,0,none⟩) 1 1]).run Tryz.prog (w4.alloc (.cells #[Value.string ⟨⟨x⟩⟩] 9)) = .ok v' w5:=h1
      have hz:Hid (∀ l ∈ ps ++ [x],l.length≤100):=fun l hl=>by
       rcases List.mem_append.1 hl with h | h
       ·exact hpz l h
       ·simp only [List.mem_cons, List.not_mem_nil, or_false] at h
        subst h
        omega
      have D5:=hide (DH.out.keep (N5.block s (by omega)) (fun h0=>N5.block g (by have:=lg h0;omega)))
      have B5:Hid (BlkT w5 w.heap.size poolP):=(N5.block _ (by omega)).trans BH.out
      have U5:Hid (But s w w5):=⟨N5.os.trans UH.out.os,N5.tape.trans UH.out.tape,N5.output.trans UH.out.output,Nat.le_trans UH.out.size N5.size,fun j hj hn=>(N5.block j (by omega)).trans (UH.out.block j hj hn)⟩
      have R5H:=hide R5
      have hL:Hid ((ps ++ [x]).length+(k - 1)≤4):=by show _≤_;simp;omega
      clear h1 R5 N5 RH DH UH BH rdH
      go_wp2_with (at_builtin;refine Lib.wpList_append_run _ rfl _ _ 23 23 rfl _ _ rfl rfl _ _ h1' ?_)
      go_roundw
      case rel=>exact ⟨k - 1,ps ++ [x],_,by first | rfl | go_num,R5H.out,hL.out,hz.out,by omega,D5.out,U5.out,B5.out,EQ⟩
      case measure=>simp [intOf];omega
end Go.Proofs.YtmmbkkfjiaoeiaaGreat
namespace Go.Proofs.YtmmbkkfjiaoeiaaGreat
open Go Go.RowKit
theorem RwC.butM {w w':World} {q s:Nat} {cs:List Value} {t:TypeId} (h:RwC w q cs t) (n:But s w w') (hq:q≠s):RwC w' q cs t:=(n.block q h.lt hq).trans h
def MsOV (W:World) (B:Nat) (m:Msg) (e:Ending):Prop:=∃ v0 v1 v2 v3 v4 v5 v6 v7 v8 v9 v10 v11 v12:Value,e = .returned (.agg #[v0,v1,v2,v3,v4,v5,v6,v7,v8,v9,v10,v11,v12])∧MsO W B m v0 v1 v2 v3 v4 v5 v6 v7 v8 v9 v10 v11 v12
def MsFV (W:World) (B:Nat) (m:Msg) (e:Ending):Prop:=∃ v0 v1 v2 v3 v4 v5 v6 v7 v8 v9 v10 v11 v12:Value,e = .returned (.agg #[v0,v1,v2,v3,v4,v5,v6,v7,v8,v9,v10,v11,v12])∧MsF W B m v0 v1 v2 v3 v4 v5 v6 v7 v8 v9 v10 v11 v12
theorem make_dgB {w w' : World} {n B : Nat} (hn : n ≤ 10000) (h : w'.ownsRow w.heap.size 5 1 (.slice (some ⟨w.heap.size, 0, none⟩) n n) n (madeCells (Value.int .u8 0).cells (n * 1)).toList) (hB : B ≤ w.heap.size) : dgB w' B (.slice (some ⟨w.heap.size, 0, none⟩) n n) (List.replicate n 0) := by
 refine ⟨?_,by simpa using hn,fun i=>?_⟩
 ·have e : (madeCells (Value.int .u8 0).cells (n * 1)).toList = (List.replicate n (0 : Int)).map (Value.int .u8) := by
   apply List.ext_getElem
   ·simp [madeCells]
   ·intro i h1 h2
    simp [madeCells,Value.cells,Nat.mod_one]
  rw [e] at h
  have:=own_base h hB
  show w'.ownsRow B 5 1 _ (List.replicate n (0:Int)).length _
  rw [List.length_replicate]
  exact this
 ·rw [List.getD_eq_getElem?_getD, List.getElem?_replicate]
  split <;> exact ⟨by simp,by simp⟩
set_option maxRecDepth 100000 in
set_option maxHeartbeats 8000000 in
set_option linter.unusedSimpArgs false in
theorem drawHello_M {w : World} {s g : Nat} {a : Option Addr} {c : Nat} {xs : List Int} {t : Int} (d : Drm w s g a c xs t) (t1 : t ≤ 900000) :
  Calls Tryz.prog 57 #[.pointer (some ⟨s,0,none⟩)] w fun e w'=>∃ (m:Msg) (u:Int),hdF xs t=(m,u)∧MsOV w' w.heap.size m e∧u≤t+30∧Drm w' s g a c xs u∧But s w w':=by
 obtain ⟨dR,hdR,hrowR⟩:=rowM
 obtain ⟨i0,hi,hz0,hz1,hz2⟩:=info_parts Tryz.info5
 have ls:=d.S.lt
 have lg:=d.R.lt
 obtain ⟨B,hB⟩:∃ B,B=w.heap.size:=⟨_,rfl⟩
 have D0:Dq w w s g a c xs B t:=Dq.start d (by omega) (fun h=>by have:=lg h;omega) (by omega)
 have n1:Below w.heap.size w (w.alloc (.cells #[.int .i64 0,.int .i64 0,.slice none 0 0,.slice none 0 0,.string ⟨#[]⟩,.slice none 0 0,.slice none 0 0,.int .i64 0,.int .i64 0,.slice none 0 0,.bool false,.slice none 0 0,.slice none 0 0] 26)):=(Below.refl _ _).alloc (Nat.le_refl _) _
 have Q:RwC (w.alloc (.cells #[.int .i64 0,.int .i64 0,.slice none 0 0,.slice none 0 0,.string ⟨#[]⟩,.slice none 0 0,.slice none 0 0,.int .i64 0,.int .i64 0,.slice none 0 0,.bool false,.slice none 0 0,.slice none 0 0] 26)) w.heap.size [.int .i64 0,.int .i64 0,.slice none 0 0,.slice none 0 0,.string ⟨#[]⟩,.slice none 0 0,.slice none 0 0,.int .i64 0,.int .i64 0,.slice none 0 0,.bool false,.slice none 0 0,.slice none 0 0] 26:=RwC.new w _ _
 have z1:(w.alloc (.cells #[.int .i64 0,.int .i64 0,.slice none 0 0,.slice none 0 0,.string ⟨#[]⟩,.slice none 0 0,.slice none 0 0,.int .i64 0,.int .i64 0,.slice none 0 0,.bool false,.slice none 0 0,.slice none 0 0] 26)).heap.size=w.heap.size+1:=by simp
 have D:=D0.up n1
 have POST:∀ {m:Msg} {v0 v1 v2 v3 v4 v5 v6 v7 v8 v9 v10 v11 v12:Value} {W:World} {u:Int},Hid (MsO W B m v0 v1 v2 v3 v4 v5 v6 v7 v8 v9 v10 v11 v12)→Hid (Dq w W s g a c xs B u)→u≤t+30→Hid (hdF xs t=(m,u))→Hid (∃ (m:Msg) (u:Int),hdF xs t=(m,u)∧MsOV W w.heap.size m (.returned (.agg #[v0,v1,v2,v3,v4,v5,v6,v7,v8,v9,v10,v11,v12]))∧u≤t+30∧Drm W s g a c xs u∧But s w W):=fun {m v0 v1 v2 v3 v4 v5 v6 v7 v8 v9 v10 v11 v12 W u} hm hd hu he=>by
  subst hB
  exact ⟨m,u,he.out,⟨v0,v1,v2,v3,v4,v5,v6,v7,v8,v9,v10,v11,v12,rfl,hm.out⟩,hu,hd.out.d,hd.out.out⟩
 clear n1 d D0
 go_enter Tryz.func57,Tryz.ntmps57
 go_wp2_with fail
 generalize w.alloc (.cells #[.int .i64 0,.int .i64 0,.slice none 0 0,.slice none 0 0,.string ⟨#[]⟩,.slice none 0 0,.slice none 0 0,.int .i64 0,.int .i64 0,.slice none 0 0,.bool false,.slice none 0 0,.slice none 0 0] 26)=W0 at *
 refine (bytes_M D.d 32 (by omega) (by omega)).mono ?_
 rintro e W1 ⟨v',rfl,yb,R',d',b'⟩
 obtain ⟨X2,hX2⟩:∃ X,X=byF xs (t) 32:=⟨_,rfl⟩
 have yl:X2.length=32:=by rw [hX2,byF_len]
 rw [← hX2] at R' yb
 have f2:dgB W1 B v' X2:=dgB.row R' (by omega) yb (by omega)
 obtain ⟨a2,l2,c2,rfl⟩:=f2.form
 have EX2:=hide hX2
 clear R' yl yb hX2
 have zW1:=b'.size
 replace Q:=Q.butM b' (by omega)
 replace D:=D.but b' d'
 clear b' d'
 go_wp2_with fail
 refine (bytes_M D.d 32 (by omega) (by omega)).mono ?_
 rintro e W2 ⟨v',rfl,yb,R',d',b'⟩
 obtain ⟨X3,hX3⟩:∃ X,X=byF xs (t+1) 32:=⟨_,rfl⟩
 have yl:X3.length=32:=by rw [hX3,byF_len]
 rw [← hX3] at R' yb
 have f3:dgB W2 B v' X3:=dgB.row R' (by omega) yb (by omega)
 obtain ⟨a3,l3,c3,rfl⟩:=f3.form
 have EX3:=hide hX3
 clear R' yl yb hX3
 have zW2:=b'.size
 replace Q:=Q.butM b' (by omega)
 replace f2:=f2.kp (X:=26) (dgK.but b' D.sB) (by decide)
 replace D:=D.but b' d'
 clear b' d'
 go_wp2_with fail
 refine (drawName_M D.d (by omega)).mono ?_
 rintro e W3 ⟨h4,u4,rfl,en4,lh,hu4,d',b'⟩
 have EN4:=hide en4
 clear en4
 have zW3:=b'.size
 replace Q:=Q.butM b' (by omega)
 replace f2:=f2.kp (X:=26) (dgK.but b' D.sB) (by decide)
 replace f3:=f3.kp (X:=26) (dgK.but b' D.sB) (by decide)
 replace D:=D.but b' d'
 clear b' d'
 go_wp2_with fail
 refine (drawProt_M D.d (by omega) 4 (by omega)).mono ?_
 rintro e W4 ⟨v',ps,u5,rfl,en5,f5,hu5,d',b'⟩
 have EN5:=hide en5
 clear en5
 obtain ⟨R5,p1,p2⟩:=f5
 have f5:dgT W4 B v' ps:=⟨own_base R5 (by omega),p1,p2⟩
 obtain ⟨a5,c5,g5,rfl,_⟩:=R5.form
 obtain ⟨l5,hl5⟩:∃ l,l=ps.length:=⟨_,rfl⟩
 rw [← hl5] at f5 ⊢
 clear R5 p1 p2 hl5
 have zW4:=b'.size
 replace Q:=Q.butM b' (by omega)
 replace f2:=f2.kp (X:=26) (dgK.but b' D.sB) (by decide)
 replace f3:=f3.kp (X:=26) (dgK.but b' D.sB) (by decide)
 replace D:=D.but b' d'
 clear b' d'
 have n':Below W4.heap.size W4 (W4.alloc (.cells #[.int .i64 1,.int .i64 1,.slice a2 l2 c2,.slice a3 l3 c3,.string ⟨⟨h4⟩⟩,.slice a5 l5 c5,.slice none 0 0,.int .i64 0,.int .i64 0,.slice none 0 0,.bool false,.slice none 0 0,.slice none 0 0] 26)):=(Below.refl _ _).alloc (Nat.le_refl _) _
 have T:RwC (W4.alloc (.cells #[.int .i64 1,.int .i64 1,.slice a2 l2 c2,.slice a3 l3 c3,.string ⟨⟨h4⟩⟩,.slice a5 l5 c5,.slice none 0 0,.int .i64 0,.int .i64 0,.slice none 0 0,.bool false,.slice none 0 0,.slice none 0 0] 26)) W4.heap.size [.int .i64 1,.int .i64 1,.slice a2 l2 c2,.slice a3 l3 c3,.string ⟨⟨h4⟩⟩,.slice a5 l5 c5,.slice none 0 0,.int .i64 0,.int .i64 0,.slice none 0 0,.bool false,.slice none 0 0,.slice none 0 0] 26:=RwC.new _ _ _
 have zW5:(W4.alloc (.cells #[.int .i64 1,.int .i64 1,.slice a2 l2 c2,.slice a3 l3 c3,.string ⟨⟨h4⟩⟩,.slice a5 l5 c5,.slice none 0 0,.int .i64 0,.int .i64 0,.slice none 0 0,.bool false,.slice none 0 0,.slice none 0 0] 26)).heap.size=W4.heap.size+1:=by simp
 have p0:=Q.lt
 replace Q:=Q.up n'
 have p1:=D.size
 replace D:=D.up n'
 replace f2:=f2.kp (X:=26) (dgK.up n') (by decide)
 replace f3:=f3.kp (X:=26) (dgK.up n') (by decide)
 replace f5:=f5.kp (X:=26) (dgK.up n') (by decide)
 have M:MsO (W4.alloc (.cells #[.int .i64 1,.int .i64 1,.slice a2 l2 c2,.slice a3 l3 c3,.string ⟨⟨h4⟩⟩,.slice a5 l5 c5,.slice none 0 0,.int .i64 0,.int .i64 0,.slice none 0 0,.bool false,.slice none 0 0,.slice none 0 0] 26)) B (⟨1,1,X2,X3,h4,ps,[],0,0,[],false,[],[]⟩:Msg) (.int .i64 1) (.int .i64 1) (.slice a2 l2 c2) (.slice a3 l3 c3) (.string ⟨⟨h4⟩⟩) (.slice a5 l5 c5) (.slice none 0 0) (.int .i64 0) (.int .i64 0) (.slice none 0 0) (.bool false) (.slice none 0 0) (.slice none 0 0):=⟨rfl,rfl,f2,f3,⟨rfl,by show h4.length≤300;omega⟩,f5,dgB.nil _ _,rfl,rfl,dgB.nil _ _,rfl,dgC.nil _ _,dgB.nil _ _⟩
 clear n' f2 f3 f5
 go_wp2_with fail
 generalize W4.alloc (.cells #[.int .i64 1,.int .i64 1,.slice a2 l2 c2,.slice a3 l3 c3,.string ⟨⟨h4⟩⟩,.slice a5 l5 c5,.slice none 0 0,.int .i64 0,.int .i64 0,.slice none 0 0,.bool false,.slice none 0 0,.slice none 0 0] 26)=W5 at *
 refine (chance_M D.d (by omega) (by decide) (by decide)).mono ?_
 rintro e W6 ⟨b2,rfl,eb2,d',b'⟩
 have Eb2:=hide eb2
 clear eb2
 have zW6:=b'.size
 replace T:=T.butM b' (by omega)
 replace M:=M.kp (dgK.but b' D.sB) neM
 replace Q:=Q.butM b' (by omega)
 replace D:=D.but b' d'
 clear b' d'
 cases b2
 case false =>
  have Cb2:Hid (¬ (nxF xs (u5) 2=0)):=hide (of_decide_eq_false Eb2.out.symm)
  go_wp2_with fail
  refine (chance_M D.d (by omega) (by decide) (by decide)).mono ?_
  rintro e W7 ⟨b9,rfl,eb9,d',b'⟩
  have Eb9:=hide eb9
  clear eb9
  have zW7:=b'.size
  replace T:=T.butM b' (by omega)
  replace M:=M.kp (dgK.but b' D.sB) neM
  replace Q:=Q.butM b' (by omega)
  replace D:=D.but b' d'
  clear b' d'
  cases b9
  case false =>
   have Cb9:Hid (¬ (nxF xs (u5+1) 8=0)):=hide (of_decide_eq_false Eb9.out.symm)
   have RG:=T.rangeG
   obtain ⟨THR,ONE,RR,MF,DF⟩:=M.fin Q D (by omega)
   clear M D Q T
   have EQ:Hid (hdF xs t=((⟨1,1,X2,X3,h4,ps,[],0,0,[],false,[],[]⟩:Msg),u5+1+1)):=by
    show _=_
    simp only [hdF,heG,← EX2.out,← EX3.out,EN4.out,EN5.out,Cb2.out,Cb9.out,Int.toNat_natCast,if_true,if_false,ite_self,reduceIte]
   go_wp2_with (first | refine wpList_load_mid rfl 26 (.tmp 3) rfl _ 0 rfl _ dR RG hdR hrowR iM ?_ | refine wpList_store_mid rfl 26 (.tmp 2) (.tmp 39) rfl _ 0 _ rfl rfl THR iM ONE ?_)
   refine bodyPost_ret (v := .agg _) (results_cellG Tryz.results57 _ _ _ _ dR rfl RR hdR hrowR iM) rfl ?_
   exact (POST MF DF (by omega) EQ).out
  case true =>
   have Cb9:Hid ((nxF xs (u5+1) 8=0)):=hide (of_decide_eq_true Eb9.out.symm)
   go_wp2_with fail
   refine (next_M D.d (by omega) (by decide) (by decide)).mono ?_
   rintro e W8 ⟨r1,rfl,er1,hr1,d',b'⟩
   have Er1:=hide er1
   clear er1
   have zW8:=b'.size
   replace T:=T.butM b' (by omega)
   replace M:=M.kp (dgK.but b' D.sB) neM
   replace Q:=Q.butM b' (by omega)
   replace D:=D.but b' d'
   clear b' d'
   have tc:W8.cell? ⟨W4.heap.size,1,none⟩=some (.int .i64 1):=T.cell 1
   obtain ⟨tf,OS,T1,Q1,D1,zz⟩:=setQ 1 (.int .i64 (r1:Int)) T Q D (by omega) (by omega)
   simp only [sS,sZ] at T1
   have M1:=M.kp (dgK.onl OS T) neM
   have M2:MsO (W8.setCell ⟨W4.heap.size,1,none⟩ (.int .i64 (r1:Int))) B (⟨1,(r1:Int),X2,X3,h4,ps,[],0,0,[],false,[],[]⟩:Msg) _ _ _ _ _ _ _ _ _ _ _ _ _:=⟨M1.i0,rfl,M1.b2,M1.b3,M1.s4,M1.t5,M1.b6,M1.i7,M1.i8,M1.b9,M1.o10,M1.c11,M1.b12⟩
   clear M M1 T Q D OS
   go_upto_region 11 with fail
   generalize W8.setCell ⟨W4.heap.size,1,none⟩ (.int .i64 (r1:Int))=W9 at *
   revert T1 Q1 D1 M2
   intro T Q D M
   clear tc tf
   have RG:=T.rangeG
   obtain ⟨THR,ONE,RR,MF,DF⟩:=M.fin Q D (by omega)
   clear M D Q T
   have EQ:Hid (hdF xs t=((⟨1,(r1:Int),X2,X3,h4,ps,[],0,0,[],false,[],[]⟩:Msg),u5+1+1+1)):=by
    show _=_
    simp only [hdF,heG,← EX2.out,← EX3.out,EN4.out,EN5.out,Cb2.out,Cb9.out,Er1.out,Int.toNat_natCast,if_true,if_false,ite_self,reduceIte]
   go_wp2_with (first | refine wpList_load_mid rfl 26 (.tmp 3) rfl _ 0 rfl _ dR RG hdR hrowR iM ?_ | refine wpList_store_mid rfl 26 (.tmp 2) (.tmp 39) rfl _ 0 _ rfl rfl THR iM ONE ?_)
   refine bodyPost_ret (v := .agg _) (results_cellG Tryz.results57 _ _ _ _ dR rfl RR hdR hrowR iM) rfl ?_
   exact (POST MF DF (by omega) EQ).out
 case true =>
  have Cb2:Hid ((nxF xs (u5) 2=0)):=hide (of_decide_eq_true Eb2.out.symm)
  go_wp2_with fail
  refine (next_M D.d (by omega) (by decide) (by decide)).mono ?_
  rintro e W10 ⟨r3,rfl,er3,hr3,d',b'⟩
  have Er3:=hide er3
  clear er3
  have zW10:=b'.size
  replace T:=T.butM b' (by omega)
  replace M:=M.kp (dgK.but b' D.sB) neM
  replace Q:=Q.butM b' (by omega)
  replace D:=D.but b' d'
  clear b' d'
  obtain ⟨k3,hk3⟩:∃ k:Nat,k=1+r3:=⟨_,rfl⟩
  have q3:k3≤100:=by omega
  have w3:IntKind.i64.wrap (1+(r3:Int))=(k3:Int):=by rw [IntKind.wrap_i64];omega
  have w3':(1+(r3:Int))=(k3:Int):=by omega
  have HK3:=hide hk3
  clear hr3 hk3
  go_wp2_with fail
  try rw [w3']
  clear w3 w3'
  refine (bytes_M D.d k3 (by omega) (by omega)).mono ?_
  rintro e W11 ⟨v',rfl,yb,R',d',b'⟩
  obtain ⟨X6,hX6⟩:∃ X,X=byF xs (u5+1+1) k3:=⟨_,rfl⟩
  have yl:X6.length=k3:=by rw [hX6,byF_len]
  rw [← hX6] at R' yb
  have f6:dgB W11 B v' X6:=dgB.row R' (by omega) yb (by omega)
  obtain ⟨a6,l6,c6,rfl⟩:=f6.form
  have EX6:=hide hX6
  clear R' yl yb hX6
  have zW11:=b'.size
  replace T:=T.butM b' (by omega)
  replace M:=M.kp (dgK.but b' D.sB) neM
  replace Q:=Q.butM b' (by omega)
  replace D:=D.but b' d'
  clear b' d'
  have tc:W11.cell? ⟨W4.heap.size,6,none⟩=some (.slice none 0 0):=T.cell 6
  obtain ⟨tf,OS,T1,Q1,D1,zz⟩:=setQ 6 (.slice a6 l6 c6) T Q D (by omega) (by omega)
  simp only [sS,sZ] at T1
  have M1:=M.kp (dgK.onl OS T) neM
  have nf:=f6.kp (dgK.onl OS T) (by decide)
  have M2:MsO (W11.setCell ⟨W4.heap.size,6,none⟩ (.slice a6 l6 c6)) B (⟨1,1,X2,X3,h4,ps,X6,0,0,[],false,[],[]⟩:Msg) _ _ _ _ _ _ _ _ _ _ _ _ _:=⟨M1.i0,M1.i1,M1.b2,M1.b3,M1.s4,M1.t5,nf,M1.i7,M1.i8,M1.b9,M1.o10,M1.c11,M1.b12⟩
  clear M M1 T Q D OS nf
  go_upto_region 4 with fail
  generalize W11.setCell ⟨W4.heap.size,6,none⟩ (.slice a6 l6 c6)=W12 at *
  revert T1 Q1 D1 M2
  intro T Q D M
  clear tc tf
  go_wp2_with fail
  refine (chance_M D.d (by omega) (by decide) (by decide)).mono ?_
  rintro e W13 ⟨b4,rfl,eb4,d',b'⟩
  have Eb4:=hide eb4
  clear eb4
  have zW13:=b'.size
  replace T:=T.butM b' (by omega)
  replace M:=M.kp (dgK.but b' D.sB) neM
  replace Q:=Q.butM b' (by omega)
  replace D:=D.but b' d'
  clear b' d'
  cases b4
  case false =>
   have Cb4:Hid (¬ (nxF xs (u5+1+1+1) 8=0)):=hide (of_decide_eq_false Eb4.out.symm)
   go_wp2_with fail
   refine (next_M D.d (by omega) (by decide) (by decide)).mono ?_
   rintro e W14 ⟨r7,rfl,er7,hr7,d',b'⟩
   have Er7:=hide er7
   clear er7
   have zW14:=b'.size
   replace T:=T.butM b' (by omega)
   replace M:=M.kp (dgK.but b' D.sB) neM
   replace Q:=Q.butM b' (by omega)
   replace D:=D.but b' d'
   clear b' d'
   have tc:W14.cell? ⟨W4.heap.size,7,none⟩=some (.int .i64 0):=T.cell 7
   obtain ⟨tf,OS,T1,Q1,D1,zz⟩:=setQ 7 (.int .i64 (r7:Int)) T Q D (by omega) (by omega)
   simp only [sS,sZ] at T1
   have M1:=M.kp (dgK.onl OS T) neM
   have M2:MsO (W14.setCell ⟨W4.heap.size,7,none⟩ (.int .i64 (r7:Int))) B (⟨1,1,X2,X3,h4,ps,X6,(r7:Int),0,[],false,[],[]⟩:Msg) _ _ _ _ _ _ _ _ _ _ _ _ _:=⟨M1.i0,M1.i1,M1.b2,M1.b3,M1.s4,M1.t5,M1.b6,rfl,M1.i8,M1.b9,M1.o10,M1.c11,M1.b12⟩
   clear M M1 T Q D OS
   go_upto_region 7 with fail
   generalize W14.setCell ⟨W4.heap.size,7,none⟩ (.int .i64 (r7:Int))=W15 at *
   revert T1 Q1 D1 M2
   intro T Q D M
   clear tc tf
   go_wp2_with fail
   refine (next_M D.d (by omega) (by decide) (by decide)).mono ?_
   rintro e W16 ⟨r8,rfl,er8,hr8,d',b'⟩
   have Er8:=hide er8
   clear er8
   have zW16:=b'.size
   replace T:=T.butM b' (by omega)
   replace M:=M.kp (dgK.but b' D.sB) neM
   replace Q:=Q.butM b' (by omega)
   replace D:=D.but b' d'
   clear b' d'
   have tc:W16.cell? ⟨W4.heap.size,8,none⟩=some (.int .i64 0):=T.cell 8
   obtain ⟨tf,OS,T1,Q1,D1,zz⟩:=setQ 8 (.int .i64 (r8:Int)) T Q D (by omega) (by omega)
   simp only [sS,sZ] at T1
   have M1:=M.kp (dgK.onl OS T) neM
   have M2:MsO (W16.setCell ⟨W4.heap.size,8,none⟩ (.int .i64 (r8:Int))) B (⟨1,1,X2,X3,h4,ps,X6,(r7:Int),(r8:Int),[],false,[],[]⟩:Msg) _ _ _ _ _ _ _ _ _ _ _ _ _:=⟨M1.i0,M1.i1,M1.b2,M1.b3,M1.s4,M1.t5,M1.b6,M1.i7,rfl,M1.b9,M1.o10,M1.c11,M1.b12⟩
   clear M M1 T Q D OS
   go_upto_region 8 with fail
   generalize W16.setCell ⟨W4.heap.size,8,none⟩ (.int .i64 (r8:Int))=W17 at *
   revert T1 Q1 D1 M2
   intro T Q D M
   clear tc tf
   go_wp2_with fail
   refine (bytes_M D.d 32 (by omega) (by omega)).mono ?_
   rintro e W18 ⟨v',rfl,yb,R',d',b'⟩
   obtain ⟨X9,hX9⟩:∃ X,X=byF xs (u5+1+1+1+1+1+1) 32:=⟨_,rfl⟩
   have yl:X9.length=32:=by rw [hX9,byF_len]
   rw [← hX9] at R' yb
   have f9:dgB W18 B v' X9:=dgB.row R' (by omega) yb (by omega)
   obtain ⟨a9,l9,c9,rfl⟩:=f9.form
   have EX9:=hide hX9
   clear R' yl yb hX9
   have zW18:=b'.size
   replace T:=T.butM b' (by omega)
   replace M:=M.kp (dgK.but b' D.sB) neM
   replace Q:=Q.butM b' (by omega)
   replace D:=D.but b' d'
   clear b' d'
   have tc:W18.cell? ⟨W4.heap.size,9,none⟩=some (.slice none 0 0):=T.cell 9
   obtain ⟨tf,OS,T1,Q1,D1,zz⟩:=setQ 9 (.slice a9 l9 c9) T Q D (by omega) (by omega)
   simp only [sS,sZ] at T1
   have M1:=M.kp (dgK.onl OS T) neM
   have nf:=f9.kp (dgK.onl OS T) (by decide)
   have M2:MsO (W18.setCell ⟨W4.heap.size,9,none⟩ (.slice a9 l9 c9)) B (⟨1,1,X2,X3,h4,ps,X6,(r7:Int),(r8:Int),X9,false,[],[]⟩:Msg) _ _ _ _ _ _ _ _ _ _ _ _ _:=⟨M1.i0,M1.i1,M1.b2,M1.b3,M1.s4,M1.t5,M1.b6,M1.i7,M1.i8,nf,M1.o10,M1.c11,M1.b12⟩
   clear M M1 T Q D OS nf
   go_upto_region 9 with fail
   generalize W18.setCell ⟨W4.heap.size,9,none⟩ (.slice a9 l9 c9)=W19 at *
   revert T1 Q1 D1 M2
   intro T Q D M
   clear tc tf
   go_wp2_with fail
   refine (chance_M D.d (by omega) (by decide) (by decide)).mono ?_
   rintro e W20 ⟨b9,rfl,eb9,d',b'⟩
   have Eb9:=hide eb9
   clear eb9
   have zW20:=b'.size
   replace T:=T.butM b' (by omega)
   replace M:=M.kp (dgK.but b' D.sB) neM
   replace Q:=Q.butM b' (by omega)
   replace D:=D.but b' d'
   clear b' d'
   cases b9
   case false =>
    have Cb9:Hid (¬ (nxF xs (u5+1+1+1+1+1+1+1) 8=0)):=hide (of_decide_eq_false Eb9.out.symm)
    have RG:=T.rangeG
    obtain ⟨THR,ONE,RR,MF,DF⟩:=M.fin Q D (by omega)
    clear M D Q T
    have EQ:Hid (hdF xs t=((⟨1,1,X2,X3,h4,ps,X6,(r7:Int),(r8:Int),X9,false,[],[]⟩:Msg),u5+1+1+1+1+1+1+1+1)):=by
     show _=_
     simp only [hdF,heG,← EX2.out,← EX3.out,EN4.out,EN5.out,Cb2.out,Er3.out,← HK3.out,← EX6.out,Cb4.out,Er7.out,Er8.out,← EX9.out,Cb9.out,Int.toNat_natCast,if_true,if_false,ite_self,reduceIte]
    go_wp2_with (first | refine wpList_load_mid rfl 26 (.tmp 3) rfl _ 0 rfl _ dR RG hdR hrowR iM ?_ | refine wpList_store_mid rfl 26 (.tmp 2) (.tmp 39) rfl _ 0 _ rfl rfl THR iM ONE ?_)
    refine bodyPost_ret (v := .agg _) (results_cellG Tryz.results57 _ _ _ _ dR rfl RR hdR hrowR iM) rfl ?_
    exact (POST MF DF (by omega) EQ).out
   case true =>
    have Cb9:Hid ((nxF xs (u5+1+1+1+1+1+1+1) 8=0)):=hide (of_decide_eq_true Eb9.out.symm)
    go_wp2_with fail
    refine (next_M D.d (by omega) (by decide) (by decide)).mono ?_
    rintro e W21 ⟨r1,rfl,er1,hr1,d',b'⟩
    have Er1:=hide er1
    clear er1
    have zW21:=b'.size
    replace T:=T.butM b' (by omega)
    replace M:=M.kp (dgK.but b' D.sB) neM
    replace Q:=Q.butM b' (by omega)
    replace D:=D.but b' d'
    clear b' d'
    have tc:W21.cell? ⟨W4.heap.size,1,none⟩=some (.int .i64 1):=T.cell 1
    obtain ⟨tf,OS,T1,Q1,D1,zz⟩:=setQ 1 (.int .i64 (r1:Int)) T Q D (by omega) (by omega)
    simp only [sS,sZ] at T1
    have M1:=M.kp (dgK.onl OS T) neM
    have M2:MsO (W21.setCell ⟨W4.heap.size,1,none⟩ (.int .i64 (r1:Int))) B (⟨1,(r1:Int),X2,X3,h4,ps,X6,(r7:Int),(r8:Int),X9,false,[],[]⟩:Msg) _ _ _ _ _ _ _ _ _ _ _ _ _:=⟨M1.i0,rfl,M1.b2,M1.b3,M1.s4,M1.t5,M1.b6,M1.i7,M1.i8,M1.b9,M1.o10,M1.c11,M1.b12⟩
    clear M M1 T Q D OS
    go_upto_region 11 with fail
    generalize W21.setCell ⟨W4.heap.size,1,none⟩ (.int .i64 (r1:Int))=W22 at *
    revert T1 Q1 D1 M2
    intro T Q D M
    clear tc tf
    have RG:=T.rangeG
    obtain ⟨THR,ONE,RR,MF,DF⟩:=M.fin Q D (by omega)
    clear M D Q T
    have EQ:Hid (hdF xs t=((⟨1,(r1:Int),X2,X3,h4,ps,X6,(r7:Int),(r8:Int),X9,false,[],[]⟩:Msg),u5+1+1+1+1+1+1+1+1+1)):=by
     show _=_
     simp only [hdF,heG,← EX2.out,← EX3.out,EN4.out,EN5.out,Cb2.out,Er3.out,← HK3.out,← EX6.out,Cb4.out,Er7.out,Er8.out,← EX9.out,Cb9.out,Er1.out,Int.toNat_natCast,if_true,if_false,ite_self,reduceIte]
    go_wp2_with (first | refine wpList_load_mid rfl 26 (.tmp 3) rfl _ 0 rfl _ dR RG hdR hrowR iM ?_ | refine wpList_store_mid rfl 26 (.tmp 2) (.tmp 39) rfl _ 0 _ rfl rfl THR iM ONE ?_)
    refine bodyPost_ret (v := .agg _) (results_cellG Tryz.results57 _ _ _ _ dR rfl RR hdR hrowR iM) rfl ?_
    exact (POST MF DF (by omega) EQ).out
  case true =>
   have Cb4:Hid ((nxF xs (u5+1+1+1) 8=0)):=hide (of_decide_eq_true Eb4.out.symm)
   go_wp2_with (at_make;refine wpList_make_full _ rfl _ _ 22 rfl W13.heap.size 5 i0 (.int .u8 0) 1 Tryz.underlying22 hi hz0 hz1 .i64 .i64 _ _ 400 rfl rfl rfl rfl (by rw [hz2];omega) (by unfold maxLen;omega) (Nat.le_refl _) ?_;intro W23 hown hgrow;have fx6:dgB W23 B _ (List.replicate 400 0):=make_dgB (by omega) hown (by omega);have n':Below W13.heap.size W13 W23:=(Below.refl _ _).grown hgrow (Nat.le_refl _) (by simp);have zW23:=n'.size;replace Q:=Q.up n';replace T:=T.up n';replace D:=D.up n';replace M:=M.kp (dgK.up n') neM;clear hown hgrow n';have tc:W23.cell? ⟨W4.heap.size,6,none⟩=some (.slice a6 l6 c6):=T.cell 6;obtain ⟨tf,OS,T1,Q1,D1,zz⟩:=setQ 6 (.slice (some ⟨W13.heap.size,0,none⟩) 400 400) T Q D (by omega) (by omega);simp only [sS,sZ] at T1;have M1:=M.kp (dgK.onl OS T) neM;have nf:=fx6.kp (dgK.onl OS T) (by decide);have M2:MsO (W23.setCell ⟨W4.heap.size,6,none⟩ (.slice (some ⟨W13.heap.size,0,none⟩) 400 400)) B (⟨1,1,X2,X3,h4,ps,List.replicate 400 0,0,0,[],false,[],[]⟩:Msg) _ _ _ _ _ _ _ _ _ _ _ _ _:=⟨M1.i0,M1.i1,M1.b2,M1.b3,M1.s4,M1.t5,nf,M1.i7,M1.i8,M1.b9,M1.o10,M1.c11,M1.b12⟩;clear M M1 T Q D OS nf)
   generalize W23.setCell ⟨W4.heap.size,6,none⟩ (.slice (some ⟨W13.heap.size,0,none⟩) 400 400)=W24 at *
   revert T1 Q1 D1 M2
   intro T Q D M
   clear tc tf
   refine (next_M D.d (by omega) (by decide) (by decide)).mono ?_
   rintro e W25 ⟨r7,rfl,er7,hr7,d',b'⟩
   have Er7:=hide er7
   clear er7
   have zW25:=b'.size
   replace T:=T.butM b' (by omega)
   replace M:=M.kp (dgK.but b' D.sB) neM
   replace Q:=Q.butM b' (by omega)
   replace D:=D.but b' d'
   clear b' d'
   have tc:W25.cell? ⟨W4.heap.size,7,none⟩=some (.int .i64 0):=T.cell 7
   obtain ⟨tf,OS,T1,Q1,D1,zz⟩:=setQ 7 (.int .i64 (r7:Int)) T Q D (by omega) (by omega)
   simp only [sS,sZ] at T1
   have M1:=M.kp (dgK.onl OS T) neM
   have M2:MsO (W25.setCell ⟨W4.heap.size,7,none⟩ (.int .i64 (r7:Int))) B (⟨1,1,X2,X3,h4,ps,List.replicate 400 0,(r7:Int),0,[],false,[],[]⟩:Msg) _ _ _ _ _ _ _ _ _ _ _ _ _:=⟨M1.i0,M1.i1,M1.b2,M1.b3,M1.s4,M1.t5,M1.b6,rfl,M1.i8,M1.b9,M1.o10,M1.c11,M1.b12⟩
   clear M M1 T Q D OS
   go_upto_region 7 with fail
   generalize W25.setCell ⟨W4.heap.size,7,none⟩ (.int .i64 (r7:Int))=W26 at *
   revert T1 Q1 D1 M2
   intro T Q D M
   clear tc tf
   go_wp2_with fail
   refine (next_M D.d (by omega) (by decide) (by decide)).mono ?_
   rintro e W27 ⟨r8,rfl,er8,hr8,d',b'⟩
   have Er8:=hide er8
   clear er8
   have zW27:=b'.size
   replace T:=T.butM b' (by omega)
   replace M:=M.kp (dgK.but b' D.sB) neM
   replace Q:=Q.butM b' (by omega)
   replace D:=D.but b' d'
   clear b' d'
   have tc:W27.cell? ⟨W4.heap.size,8,none⟩=some (.int .i64 0):=T.cell 8
   obtain ⟨tf,OS,T1,Q1,D1,zz⟩:=setQ 8 (.int .i64 (r8:Int)) T Q D (by omega) (by omega)
   simp only [sS,sZ] at T1
   have M1:=M.kp (dgK.onl OS T) neM
   have M2:MsO (W27.setCell ⟨W4.heap.size,8,none⟩ (.int .i64 (r8:Int))) B (⟨1,1,X2,X3,h4,ps,List.replicate 400 0,(r7:Int),(r8:Int),[],false,[],[]⟩:Msg) _ _ _ _ _ _ _ _ _ _ _ _ _:=⟨M1.i0,M1.i1,M1.b2,M1.b3,M1.s4,M1.t5,M1.b6,M1.i7,rfl,M1.b9,M1.o10,M1.c11,M1.b12⟩
   clear M M1 T Q D OS
   go_upto_region 8 with fail
   generalize W27.setCell ⟨W4.heap.size,8,none⟩ (.int .i64 (r8:Int))=W28 at *
   revert T1 Q1 D1 M2
   intro T Q D M
   clear tc tf
   go_wp2_with fail
   refine (bytes_M D.d 32 (by omega) (by omega)).mono ?_
   rintro e W29 ⟨v',rfl,yb,R',d',b'⟩
   obtain ⟨X9,hX9⟩:∃ X,X=byF xs (u5+1+1+1+1+1+1) 32:=⟨_,rfl⟩
   have yl:X9.length=32:=by rw [hX9,byF_len]
   rw [← hX9] at R' yb
   have f9:dgB W29 B v' X9:=dgB.row R' (by omega) yb (by omega)
   obtain ⟨a9,l9,c9,rfl⟩:=f9.form
   have EX9:=hide hX9
   clear R' yl yb hX9
   have zW29:=b'.size
   replace T:=T.butM b' (by omega)
   replace M:=M.kp (dgK.but b' D.sB) neM
   replace Q:=Q.butM b' (by omega)
   replace D:=D.but b' d'
   clear b' d'
   have tc:W29.cell? ⟨W4.heap.size,9,none⟩=some (.slice none 0 0):=T.cell 9
   obtain ⟨tf,OS,T1,Q1,D1,zz⟩:=setQ 9 (.slice a9 l9 c9) T Q D (by omega) (by omega)
   simp only [sS,sZ] at T1
   have M1:=M.kp (dgK.onl OS T) neM
   have nf:=f9.kp (dgK.onl OS T) (by decide)
   have M2:MsO (W29.setCell ⟨W4.heap.size,9,none⟩ (.slice a9 l9 c9)) B (⟨1,1,X2,X3,h4,ps,List.replicate 400 0,(r7:Int),(r8:Int),X9,false,[],[]⟩:Msg) _ _ _ _ _ _ _ _ _ _ _ _ _:=⟨M1.i0,M1.i1,M1.b2,M1.b3,M1.s4,M1.t5,M1.b6,M1.i7,M1.i8,nf,M1.o10,M1.c11,M1.b12⟩
   clear M M1 T Q D OS nf
   go_upto_region 9 with fail
   generalize W29.setCell ⟨W4.heap.size,9,none⟩ (.slice a9 l9 c9)=W30 at *
   revert T1 Q1 D1 M2
   intro T Q D M
   clear tc tf
   go_wp2_with fail
   refine (chance_M D.d (by omega) (by decide) (by decide)).mono ?_
   rintro e W31 ⟨b9,rfl,eb9,d',b'⟩
   have Eb9:=hide eb9
   clear eb9
   have zW31:=b'.size
   replace T:=T.butM b' (by omega)
   replace M:=M.kp (dgK.but b' D.sB) neM
   replace Q:=Q.butM b' (by omega)
   replace D:=D.but b' d'
   clear b' d'
   cases b9
   case false =>
    have Cb9:Hid (¬ (nxF xs (u5+1+1+1+1+1+1+1) 8=0)):=hide (of_decide_eq_false Eb9.out.symm)
    have RG:=T.rangeG
    obtain ⟨THR,ONE,RR,MF,DF⟩:=M.fin Q D (by omega)
    clear M D Q T
    have EQ:Hid (hdF xs t=((⟨1,1,X2,X3,h4,ps,List.replicate 400 0,(r7:Int),(r8:Int),X9,false,[],[]⟩:Msg),u5+1+1+1+1+1+1+1+1)):=by
     show _=_
     simp only [hdF,heG,← EX2.out,← EX3.out,EN4.out,EN5.out,Cb2.out,Er3.out,← HK3.out,← EX6.out,Cb4.out,Er7.out,Er8.out,← EX9.out,Cb9.out,Int.toNat_natCast,if_true,if_false,ite_self,reduceIte]
    go_wp2_with (first | refine wpList_load_mid rfl 26 (.tmp 3) rfl _ 0 rfl _ dR RG hdR hrowR iM ?_ | refine wpList_store_mid rfl 26 (.tmp 2) (.tmp 39) rfl _ 0 _ rfl rfl THR iM ONE ?_)
    refine bodyPost_ret (v := .agg _) (results_cellG Tryz.results57 _ _ _ _ dR rfl RR hdR hrowR iM) rfl ?_
    exact (POST MF DF (by omega) EQ).out
   case true =>
    have Cb9:Hid ((nxF xs (u5+1+1+1+1+1+1+1) 8=0)):=hide (of_decide_eq_true Eb9.out.symm)
    go_wp2_with fail
    refine (next_M D.d (by omega) (by decide) (by decide)).mono ?_
    rintro e W32 ⟨r1,rfl,er1,hr1,d',b'⟩
    have Er1:=hide er1
    clear er1
    have zW32:=b'.size
    replace T:=T.butM b' (by omega)
    replace M:=M.kp (dgK.but b' D.sB) neM
    replace Q:=Q.butM b' (by omega)
    replace D:=D.but b' d'
    clear b' d'
    have tc:W32.cell? ⟨W4.heap.size,1,none⟩=some (.int .i64 1):=T.cell 1
    obtain ⟨tf,OS,T1,Q1,D1,zz⟩:=setQ 1 (.int .i64 (r1:Int)) T Q D (by omega) (by omega)
    simp only [sS,sZ] at T1
    have M1:=M.kp (dgK.onl OS T) neM
    have M2:MsO (W32.setCell ⟨W4.heap.size,1,none⟩ (.int .i64 (r1:Int))) B (⟨1,(r1:Int),X2,X3,h4,ps,List.replicate 400 0,(r7:Int),(r8:Int),X9,false,[],[]⟩:Msg) _ _ _ _ _ _ _ _ _ _ _ _ _:=⟨M1.i0,rfl,M1.b2,M1.b3,M1.s4,M1.t5,M1.b6,M1.i7,M1.i8,M1.b9,M1.o10,M1.c11,M1.b12⟩
    clear M M1 T Q D OS
    go_upto_region 11 with fail
    generalize W32.setCell ⟨W4.heap.size,1,none⟩ (.int .i64 (r1:Int))=W33 at *
    revert T1 Q1 D1 M2
    intro T Q D M
    clear tc tf
    have RG:=T.rangeG
    obtain ⟨THR,ONE,RR,MF,DF⟩:=M.fin Q D (by omega)
    clear M D Q T
    have EQ:Hid (hdF xs t=((⟨1,(r1:Int),X2,X3,h4,ps,List.replicate 400 0,(r7:Int),(r8:Int),X9,false,[],[]⟩:Msg),u5+1+1+1+1+1+1+1+1+1)):=by
     show _=_
     simp only [hdF,heG,← EX2.out,← EX3.out,EN4.out,EN5.out,Cb2.out,Er3.out,← HK3.out,← EX6.out,Cb4.out,Er7.out,Er8.out,← EX9.out,Cb9.out,Er1.out,Int.toNat_natCast,if_true,if_false,ite_self,reduceIte]
    go_wp2_with (first | refine wpList_load_mid rfl 26 (.tmp 3) rfl _ 0 rfl _ dR RG hdR hrowR iM ?_ | refine wpList_store_mid rfl 26 (.tmp 2) (.tmp 39) rfl _ 0 _ rfl rfl THR iM ONE ?_)
    refine bodyPost_ret (v := .agg _) (results_cellG Tryz.results57 _ _ _ _ dR rfl RR hdR hrowR iM) rfl ?_
    exact (POST MF DF (by omega) EQ).out
end Go.Proofs.YtmmbkkfjiaoeiaaGreat
namespace Go.Proofs.YtmmbkkfjiaoeiaaGreat
open Go Go.RowKit
set_option maxRecDepth 100000 in
theorem convT (w:World) (l:List UInt8):∃ (c:Nat) (w':World),(convert 9 22 (.string ⟨⟨l⟩⟩)).run Tryz.prog w = .ok (.slice (some ⟨w.heap.size,0,none⟩) l.length c) w'∧Rd w' w.heap.size (some ⟨w.heap.size,0,none⟩) .u8 (txL l)∧l.length≤c∧Below w.heap.size w w':=by
 refine ⟨_,_,Lib.run_convert_string_bytes w 9 22 5 ⟨⟨l⟩⟩ Tryz.underlying9 Tryz.underlying22 Tryz.underlying5,fun _=>⟨0,rfl,fun i hi=>?_⟩,grownCap_ge w _ 0 5,⟨rfl,rfl,rfl,by rw [Lib.bytesWorld_size];omega,fun b hb=>Lib.bytesWorld_at_old w 5 _ b hb⟩⟩
 rw [txL_len] at hi
 rw [Nat.zero_add,Lib.bytesWorld_cell w 5 ⟨⟨l⟩⟩ i hi]
 unfold txL
 rw [List.getD_eq_getElem?_getD,List.getD_eq_getElem?_getD,List.getElem?_map]
 have h:l[i]?=some l[i]:=List.getElem?_eq_getElem hi
 rw [h]
 simp
theorem wpList_convT {P:Program} (w:World) {ops:Array Oper} {rest:List Oper} {o:Oper} {a:Act} {Q:Exit→Act→World→Prop} (hgd:o.guard=none) (src dst:TypeId) (x:Operand) (ho:o.op = .convert src dst x) (v:Value) (hx:a.eval x=v)
  (v':Value) (w':World) (hr:(convert src dst v).run P w = .ok v' w') (h:wpList P ops Q rest (a.put o.dst v') w'):wpList P ops Q (o :: rest) a w :=
 wpList_plain hgd fun _ hK=>by
  unfold Oper.wp execOp
  simp only [ho,hx]
  rw [Sem.run_bind,hr]
  exact hK _ _ h
theorem shL_is (l:List UInt8) (h:l.length≤255):shL l=((l.length:Int) :: txL l):=by
 unfold shL bigL
 simp [List.range_succ]
 omega
set_option maxRecDepth 100000 in
set_option maxHeartbeats 1000000 in
theorem l13ShortR_any (w:World) (g:Nat) (a:Option Addr) (c:Nat) (xs:List Int) (h:Rd w g a .u8 xs) (hz:a=none→c=0) (hl:xs.length≤255) :
  Calls Tryz.prog 66 #[.slice a xs.length c] w fun e w'=>∃ v,e = .returned v∧RowB w' w.heap.size v ((xs.length:Int) :: xs)∧Below w.heap.size w w':=by
 obtain ⟨i0,hi,hz0,hz1,hz2⟩:=info_parts Tryz.info5
 have n0:Below w.heap.size w (w.alloc (.cells #[.int .u8 (xs.length:Int)] 5)):=(Below.refl _ _).alloc (Nat.le_refl _) _
 obtain ⟨v1,w1,hap,R1,n1⟩:=append_any (P:=Tryz.prog) (w.alloc (.cells #[.int .u8 (xs.length:Int)] 5)) 22 i0 Tryz.underlying22 hi hz0 hz1 hz2 w.heap.size w.heap.size _ _ (RowB.lit1 w (xs.length:Int)) g a c xs (h.up n0) hz (by simp;omega) (Nat.le_refl _) n0.size
 have N1:=n0.trans n1
 rw [List.cons_append,List.nil_append] at R1
 clear n0 n1 h
 go_enter Tryz.func66,Tryz.ntmps66
 go_wp2_with (at_builtin;refine Lib.wpList_append_run _ rfl _ _ 22 22 rfl _ _ rfl rfl _ _ hap ?_)
 go_ret
 exact ⟨_,rfl,R1,N1⟩
end Go.Proofs.YtmmbkkfjiaoeiaaGreat
namespace Go.Proofs.YtmmbkkfjiaoeiaaGreat
open Go Go.RowKit
set_option maxHeartbeats 1000000 in
theorem l13Short_any (w:World) (l:Lst) (h:LstR w l) (hl:l.xs.length≤255) :
  Calls Tryz.prog 66 #[.slice l.a l.xs.length l.c] w (BodP w ((l.xs.length:Int) :: l.xs)):=by
 obtain ⟨i0,hi,hz0,hz1,hz2⟩:=info_parts Tryz.info5
 have n0:Below w.heap.size w (w.alloc (.cells #[.int .u8 (l.xs.length:Int)] 5)):=(Below.refl _ _).alloc (Nat.le_refl _) _
 obtain ⟨v1,w1,hap,R1,n1⟩:=append_any (P:=Tryz.prog) (w.alloc (.cells #[.int .u8 (l.xs.length:Int)] 5)) 22 i0 Tryz.underlying22 hi hz0 hz1 hz2 w.heap.size w.heap.size _ _ (RowB.lit1 w (l.xs.length:Int)) l.g l.a l.c l.xs (h.up n0).r h.z (by simp;omega) (Nat.le_refl _) n0.size
 have N1:=n0.trans n1
 rw [List.cons_append,List.nil_append] at R1
 clear n0 n1 h
 go_enter Tryz.func66,Tryz.ntmps66
 go_wp2_with (at_builtin;refine Lib.wpList_append_run _ rfl _ _ 22 22 rfl _ _ rfl rfl _ _ hap ?_)
 go_ret
 exact ⟨⟨_,rfl,R1⟩,N1⟩
set_option maxHeartbeats 1000000 in
theorem l13Long_any (w:World) (l:Lst) (h:LstR w l) :
  Calls Tryz.prog 68 #[.slice l.a l.xs.length l.c] w (BodP w (loL l.xs)):=by
 obtain ⟨i0,hi,hz0,hz1,hz2⟩:=info_parts Tryz.info5
 have m:=h.m
 have BG:=hide (l1BigB_any w (l.xs.length:Int) 2 (by omega) (by omega) (by decide))
 go_enter Tryz.func68,Tryz.ntmps68
 go_wp2_with fail
 refine BG.out.mono ?_
 rintro r w1 ⟨rfl,R1,n1⟩
 obtain ⟨v2,w2,hap,R2,n2⟩:=append_any (P:=Tryz.prog) w1 22 i0 Tryz.underlying22 hi hz0 hz1 hz2 w.heap.size w.heap.size _ _ R1 l.g l.a l.c l.xs (h.up n1).r h.z (by rw [bigL_len];omega) (Nat.le_refl _) n1.size
 have N2:=n1.trans n2
 clear n1 n2 h BG R1
 go_wp2_with (at_builtin;refine Lib.wpList_append_run _ rfl _ _ 22 22 rfl _ _ rfl rfl _ _ hap ?_)
 go_ret
 exact ⟨⟨_,rfl,R2⟩,N2⟩
theorem LstR.of_row {w:World} {b:Nat} {v:Value} {xs:List Int} (R:RowB w b v xs) (m:xs.length≤1048576):∃ l:Lst,v = .slice l.a l.xs.length l.c∧l.xs=xs∧LstR w l:=by
 obtain ⟨a,c,g,e,r,z,_,_⟩:=R.rd
 refine ⟨⟨g,a,c,xs⟩,e,rfl,⟨r,z,m,?_⟩⟩
 by_cases h0:0 < xs.length
 ·obtain ⟨off, ha, hc⟩ := r h0
  exact .inr (block_lt_of_cell (hc 0 h0))
 ·exact .inl (by show xs.length=0;omega)
set_option maxRecDepth 100000 in
set_option maxHeartbeats 1000000 in
theorem l13List_any (w : World) (g : Nat) (a : Option Addr) (c : Nat) (ls : List (List UInt8)) (H : TxsR w g a ls) (hs : ∀ l ∈ ls, l.length ≤ 255) :
  Calls Tryz.prog 67 #[.slice a ls.length c] w (BodP w (lsL ls)):=by
 obtain ⟨i0,hi,hz0,hz1,hz2⟩:=info_parts Tryz.info5
 have hn:=H.n
 have SUM:=hide (sh_sum ls 1048576 H.z)
 have HS:=hide hs
 have n1:Below w.heap.size w (w.alloc (.cells #[.int .u8 (ls.length:Int)] 5)):=(Below.refl _ _).alloc (Nat.le_refl _) _
 have R1:=RowB.lit1 w (ls.length:Int)
 clear hs
 go_enter Tryz.func67,Tryz.ntmps67
 go_wp2
 generalize w.alloc (.cells #[.int .u8 (ls.length:Int)] 5)=wa at *
 go_loopw [3,4] (fun x i wr=>∃ k:Nat,k≤ls.length∧i = .int .i64 k∧RowB wr w.heap.size x ([(ls.length:Int)] ++ ((ls.map shL).take k).flatten)∧Below w.heap.size w wr) (fun _ i _=>ls.length - (intOf i).toNat)
 case atStart=>exact ⟨0,Nat.zero_le _,rfl,by simpa using R1,n1⟩
 case round =>
  obtain ⟨k,hk,rfl,R,hN⟩:=hrel
  clear R1 n1
  by_cases hlt:k < ls.length
  ·obtain ⟨off, ea, hc⟩ := (H.up hN).r (by omega)
   have t0:(k:Int) < (ls.length:Int):=by omega
   have c1:=hc k hlt
   have ST:=hide (sh_take ls k hlt)
   have z8:(ls.getD k []).length≤255:=HS.out _ (by rw [List.getD_eq_getElem?_getD,List.getElem?_eq_getElem hlt];exact List.getElem_mem hlt)
   have SK:([(ls.length:Int)] ++ ((ls.map shL).take k).flatten).length≤1073741824:=by
    have:=SUM.out k
    have:k*(1048576+1)≤8*(1048576+1):=Nat.mul_le_mul_right _ (by omega)
    simp only [List.length_append,List.length_cons,List.length_nil]
    omega
   subst ea
   clear hc SUM HS
   generalize ls.getD k []=x at *
   simp only [tx] at c1
   obtain ⟨cv,w2,hcv,rb,cb,n2⟩:=convT wr x
   have N2:=nxt hN n2
   have tl:=txL_len x
   have LX:LstR w2 ⟨wr.heap.size,some ⟨wr.heap.size,0,none⟩,cv,txL x⟩:=⟨rb,by simp,by show (txL x).length≤_;omega,by
    by_cases h0:0 < (txL x).length
    ·obtain ⟨o, _, hc⟩ := rb h0
     exact .inr (block_lt_of_cell (hc 0 h0))
    ·exact .inl (by show (txL x).length=0;omega)⟩
   have CS:Hid (Calls Tryz.prog 66 #[.slice (some ⟨wr.heap.size,0,none⟩) x.length cv] w2 (BodP w2 (shL x))):=by
    have C0:=l13Short_any w2 _ LX (by show (txL x).length≤255;omega)
    show Calls _ _ _ _ _
    rw [shL_is x z8,← tl]
    exact C0
   clear tl cb LX rb
   go_wp2_with (refine wpList_convT wr rfl 9 22 (.tmp 19) rfl _ rfl _ _ hcv ?_)
   refine CS.out.mono ?_
   rintro r w3 ⟨⟨v3,rfl,R3⟩,n3⟩
   obtain ⟨l3,e3,x3,L3⟩:=LstR.of_row R3 (by rw [shL_len];omega)
   subst e3
   have RR:=(R.up n2).up n3
   have N3:=nxt N2 n3
   obtain ⟨v4,w4,hap,R4,n4⟩:=append_any (P:=Tryz.prog) w3 22 i0 Tryz.underlying22 hi hz0 hz1 hz2 w.heap.size w.heap.size _ _ RR l3.g l3.a l3.c l3.xs L3.r L3.z (by have:=L3.m;omega) (Nat.le_refl _) N3.size
   rw [x3,List.append_assoc,← ST.out] at R4
   have N4:=N3.trans n4
   clear CS n4 hN ST c1 R RR R3 N2 N3 n2 n3 L3 x3 hcv
   go_wp2_with (at_builtin;refine Lib.wpList_append_run _ rfl _ _ 22 22 rfl _ _ rfl rfl _ _ hap ?_)
   clear hap
   go_roundw
   case rel=>exact ⟨k+1,by omega,by go_num,R4,N4⟩
   case measure=>simp [intOf];omega
  ·obtain rfl : k = ls.length := by omega
   rw [List.take_of_length_le (by simp)] at R
   clear H SUM
   go_wp2
   go_ret
   exact ⟨⟨_,rfl,R⟩,hN⟩
end Go.Proofs.YtmmbkkfjiaoeiaaGreat
namespace Go.Proofs.YtmmbkkfjiaoeiaaGreat
open Go Go.RowKit
theorem boxed (w:World) (cs:List Value) (t:TypeId):Below w.heap.size w ((w.alloc (.cells cs.toArray t)).alloc (.cells #[] 5))∧RwC ((w.alloc (.cells cs.toArray t)).alloc (.cells #[] 5)) w.heap.size cs t∧RowB ((w.alloc (.cells cs.toArray t)).alloc (.cells #[] 5)) (w.heap.size+1) (.slice (some ⟨w.heap.size+1,0,none⟩) 0 0) []:=by
 have n0:Below w.heap.size w (w.alloc (.cells cs.toArray t)):=(Below.refl _ _).alloc (Nat.le_refl _) _
 have n1:Below (w.alloc (.cells cs.toArray t)).heap.size (w.alloc (.cells cs.toArray t)) ((w.alloc (.cells cs.toArray t)).alloc (.cells #[] 5)):=(Below.refl _ _).alloc (Nat.le_refl _) _
 have z:(w.alloc (.cells cs.toArray t)).heap.size=w.heap.size+1:=by simp
 refine ⟨nxt n0 n1,(RwC.new w cs t).up n1,?_⟩
 have:=RowB.lit0 (w.alloc (.cells cs.toArray t))
 rw [z] at this
 exact this
set_option maxHeartbeats 1000000 in
theorem sbEnd_any (w:World) (x1 x2 x3 x4 x5 x6 x7 x8 x9 x10 x11 x12:Value):Calls Tryz.prog 53 #[.agg #[.int .i64 5,x1,x2,x3,x4,x5,x6,x7,x8,x9,x10,x11,x12]] w (BodP w []):=by
 obtain ⟨N,RC,R⟩:=boxed w [.int .i64 5,x1,x2,x3,x4,x5,x6,x7,x8,x9,x10,x11,x12] 26
 have c0:=RC.cell 0
 have z1:(w.alloc (.cells #[.int .i64 5,x1,x2,x3,x4,x5,x6,x7,x8,x9,x10,x11,x12] 26)).heap.size=w.heap.size+1:=by simp
 clear RC
 go_enter Tryz.func53,Tryz.ntmps53
 go_wp2
 go_ret
 exact ⟨⟨_,rfl,R.base (by omega)⟩,N⟩
set_option maxHeartbeats 1000000 in
theorem sbProof_any (w:World) (x1 x2 x3 x4 x5 x6 x7 x8 x9 x10 x11:Value) (l:Lst) (H:LstR w l):Calls Tryz.prog 53 #[.agg #[.int .i64 15,x1,x2,x3,x4,x5,x6,x7,x8,x9,x10,x11,.slice l.a l.xs.length l.c]] w (BodP w l.xs):=by
 obtain ⟨i0,hi,hz0,hz1,hz2⟩:=info_parts Tryz.info5
 obtain ⟨N,RC,R⟩:=boxed w [.int .i64 15,x1,x2,x3,x4,x5,x6,x7,x8,x9,x10,x11,.slice l.a l.xs.length l.c] 26
 have c0:=RC.cell 0
 have c12:=RC.cell 12
 have z1:(w.alloc (.cells #[.int .i64 15,x1,x2,x3,x4,x5,x6,x7,x8,x9,x10,x11,.slice l.a l.xs.length l.c] 26)).heap.size=w.heap.size+1:=by simp
 have z2:w.heap.size+1≤((w.alloc (.cells #[.int .i64 15,x1,x2,x3,x4,x5,x6,x7,x8,x9,x10,x11,.slice l.a l.xs.length l.c] 26)).alloc (.cells #[] 5)).heap.size:=by simp
 have m:=H.m
 obtain ⟨v1,w1,hap,R1,n1⟩:=append_any (P:=Tryz.prog) ((w.alloc (.cells #[.int .i64 15,x1,x2,x3,x4,x5,x6,x7,x8,x9,x10,x11,.slice l.a l.xs.length l.c] 26)).alloc (.cells #[] 5)) 22 i0 Tryz.underlying22 hi hz0 hz1 hz2 (w.heap.size+1) w.heap.size _ _ R l.g l.a l.c l.xs (H.up N).r H.z (by simp;omega) (by omega) z2
 have N1:=N.trans n1
 rw [List.nil_append] at R1
 clear RC R n1 N m H z2
 go_enter Tryz.func53,Tryz.ntmps53
 go_wp2_with (at_builtin;refine Lib.wpList_append_run _ rfl _ _ 22 22 rfl _ _ rfl rfl _ _ hap ?_)
 go_ret
 exact ⟨⟨_,rfl,R1.base (by omega)⟩,N1⟩
set_option maxHeartbeats 1000000 in
theorem sbFinished_any (w:World) (x1 x2 x3 x4 x5 x6 x7 x8 x9 x10 x11:Value) (l:Lst) (H:LstR w l):Calls Tryz.prog 53 #[.agg #[.int .i64 20,x1,x2,x3,x4,x5,x6,x7,x8,x9,x10,x11,.slice l.a l.xs.length l.c]] w (BodP w l.xs):=by
 obtain ⟨i0,hi,hz0,hz1,hz2⟩:=info_parts Tryz.info5
 obtain ⟨N,RC,R⟩:=boxed w [.int .i64 20,x1,x2,x3,x4,x5,x6,x7,x8,x9,x10,x11,.slice l.a l.xs.length l.c] 26
 have c0:=RC.cell 0
 have c12:=RC.cell 12
 have z1:(w.alloc (.cells #[.int .i64 20,x1,x2,x3,x4,x5,x6,x7,x8,x9,x10,x11,.slice l.a l.xs.length l.c] 26)).heap.size=w.heap.size+1:=by simp
 have z2:w.heap.size+1≤((w.alloc (.cells #[.int .i64 20,x1,x2,x3,x4,x5,x6,x7,x8,x9,x10,x11,.slice l.a l.xs.length l.c] 26)).alloc (.cells #[] 5)).heap.size:=by simp
 have m:=H.m
 obtain ⟨v1,w1,hap,R1,n1⟩:=append_any (P:=Tryz.prog) ((w.alloc (.cells #[.int .i64 20,x1,x2,x3,x4,x5,x6,x7,x8,x9,x10,x11,.slice l.a l.xs.length l.c] 26)).alloc (.cells #[] 5)) 22 i0 Tryz.underlying22 hi hz0 hz1 hz2 (w.heap.size+1) w.heap.size _ _ R l.g l.a l.c l.xs (H.up N).r H.z (by simp;omega) (by omega) z2
 have N1:=N.trans n1
 rw [List.nil_append] at R1
 clear RC R n1 N m H z2
 go_enter Tryz.func53,Tryz.ntmps53
 go_wp2_with (at_builtin;refine Lib.wpList_append_run _ rfl _ _ 22 22 rfl _ _ rfl rfl _ _ hap ?_)
 go_ret
 exact ⟨⟨_,rfl,R1.base (by omega)⟩,N1⟩
theorem big1 (n:Int) (h0:0≤n) (h1:n≤255):bigL n 1=[n]:=by
 unfold bigL
 simp [List.range_succ]
 omega
set_option maxHeartbeats 1000000 in
theorem sbUpdate_any (w:World) (x1 x2 x3 x4 x5 x6 x7 x9 x10 x11 x12:Value) (ea:Int) (e0:0≤ea) (e1:ea≤255):Calls Tryz.prog 53 #[.agg #[.int .i64 24,x1,x2,x3,x4,x5,x6,x7,.int .i64 ea,x9,x10,x11,x12]] w (BodP w (bigL ea 1)):=by
 obtain ⟨i0,hi,hz0,hz1,hz2⟩:=info_parts Tryz.info5
 obtain ⟨N,RC,R⟩:=boxed w [.int .i64 24,x1,x2,x3,x4,x5,x6,x7,.int .i64 ea,x9,x10,x11,x12] 26
 rw [big1 ea e0 e1]
 have c0:=RC.cell 0
 have c8:=RC.cell 8
 have z1:(w.alloc (.cells #[.int .i64 24,x1,x2,x3,x4,x5,x6,x7,.int .i64 ea,x9,x10,x11,x12] 26)).heap.size=w.heap.size+1:=by simp
 have z2:w.heap.size+1≤((w.alloc (.cells #[.int .i64 24,x1,x2,x3,x4,x5,x6,x7,.int .i64 ea,x9,x10,x11,x12] 26)).alloc (.cells #[] 5)).heap.size:=by simp
 have R':RowB ((w.alloc (.cells #[.int .i64 24,x1,x2,x3,x4,x5,x6,x7,.int .i64 ea,x9,x10,x11,x12] 26)).alloc (.cells #[] 5)) (w.heap.size+1) (.slice (some ⟨w.heap.size+1,0,none⟩) 0 0) []:=R
 have N':Below w.heap.size w ((w.alloc (.cells #[.int .i64 24,x1,x2,x3,x4,x5,x6,x7,.int .i64 ea,x9,x10,x11,x12] 26)).alloc (.cells #[] 5)):=N
 have c0':((w.alloc (.cells #[.int .i64 24,x1,x2,x3,x4,x5,x6,x7,.int .i64 ea,x9,x10,x11,x12] 26)).alloc (.cells #[] 5)).cell? ⟨w.heap.size,0,none⟩=some (.int .i64 24):=c0
 have c8':((w.alloc (.cells #[.int .i64 24,x1,x2,x3,x4,x5,x6,x7,.int .i64 ea,x9,x10,x11,x12] 26)).alloc (.cells #[] 5)).cell? ⟨w.heap.size,8,none⟩=some (.int .i64 ea):=c8
 clear RC R N c0 c8
 go_enter Tryz.func53,Tryz.ntmps53
 go_upto_region 34 with fail
 generalize (w.alloc (.cells #[.int .i64 24,x1,x2,x3,x4,x5,x6,x7,.int .i64 ea,x9,x10,x11,x12] 26)).alloc (.cells #[] 5)=W at *
 have nL:Below W.heap.size W (W.alloc (.cells #[.int .u8 ea] 5)):=(Below.refl _ _).alloc (Nat.le_refl _) _
 obtain ⟨v1,w1,hap,R1,n1⟩:=append_any (P:=Tryz.prog) (W.alloc (.cells #[.int .u8 ea] 5)) 22 i0 Tryz.underlying22 hi hz0 hz1 hz2 (w.heap.size+1) w.heap.size _ _ (R'.up nL) _ _ 1 [ea] (blk_lit1 W .u8 5 ea).own0.rd (by simp) (by simp) (by omega) (Nat.le_trans z2 nL.size)
 have N1:=(nxt N' nL).trans n1
 rw [List.nil_append] at R1
 clear R' n1 N' nL
 go_wp2_with (at_builtin;refine Lib.wpList_append_run _ rfl _ _ 22 22 rfl _ _ rfl rfl _ _ hap ?_)
 go_ret
 exact ⟨⟨_,rfl,R1.base (by omega)⟩,N1⟩
end Go.Proofs.YtmmbkkfjiaoeiaaGreat
