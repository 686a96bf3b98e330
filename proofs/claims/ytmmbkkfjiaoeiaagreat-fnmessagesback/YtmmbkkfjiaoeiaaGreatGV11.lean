import Derived.Test.YtmmbkkfjiaoeiaaGreatGV10
import Derived.Test.YtmmbkkfjiaoeiaaGreatGV9
import Derived.Deep.RegionHeld3
namespace Go.Proofs.YtmmbkkfjiaoeiaaGreat
open Go Go.RowKit
theorem step_append_exM {P:Program} {ops:Array Oper} {o:Oper} {a:Act} {w:World} {K:Act→World→Prop} {Q:Exit→Act→World→Prop} {E:Prop} (hg:o.guard=none) (s x:Operand) (t tn:TypeId)
  (ho:o.op = .call { callee := .builtin .append,args := #[s,x],argTypes := #[t,tn] }) (vs vx:Value) (hs:a.eval s=vs) (hx:a.eval x=vx) (R:Value→World→Prop)
  (H:∃ v' w',(Builtin.append_ #[t,tn] o.type #[vs,vx]).run P w = .ok v' w'∧R v' w') (hK:∀ v' w',R v' w'→K (a.put o.dst v') w') :
  if Region.wanted o (yielded ops a.tmps)=true then Oper.wp P o a w K Q else E:=by
 have hw:Region.wanted o (yielded ops a.tmps)=true:=by simp [Region.wanted,hg]
 rw [if_pos hw]
 obtain ⟨v',w',hr,hR⟩:=H
 exact Lib.wp_append_run w s x t tn ho vs vx hs hx v' w' hr (hK v' w' hR)
structure Gr (w:World) (cs:List Value) (W:World) (v:Value) (xs:List Int):Prop where
 n:Below w.heap.size w W
 c:RwC W w.heap.size cs 26
 r:RowB W (w.heap.size+1) v xs
theorem Gr.up {w W W':World} {cs:List Value} {v:Value} {xs:List Int} (h:Gr w cs W v xs) (m:Below W.heap.size W W'):Gr w cs W' v xs:=⟨nxt h.n m,h.c.up m,h.r.up m⟩
theorem Gr.app {w W:World} {cs:List Value} {v:Value} {xs:List Int} (h:Gr w cs W v xs) (g:Nat) (a:Option Addr) (c:Nat) (us:List Int) (hr:Rd W g a .u8 us) (hc:a=none→c=0) (hl:xs.length+us.length≤1099511627776) :
  ∃ v' w',(Builtin.append_ #[22,22] 22 #[v,.slice a us.length c]).run Tryz.prog W = .ok v' w'∧(Gr w cs w' v' (xs ++ us)∧Below (w.heap.size+1) W w'):=by
 obtain ⟨i0,hi,hz0,hz1,hz2⟩:=info_parts Tryz.info5
 have l:=h.c.lt
 obtain ⟨v',w',h1,h2,h3⟩:=append_any (P:=Tryz.prog) W 22 i0 Tryz.underlying22 hi hz0 hz1 hz2 (w.heap.size+1) (w.heap.size+1) v xs h.r g a c us hr hc hl (Nat.le_refl _) (by omega)
 exact ⟨v',w',h1,⟨h.n.trans (h3.mono (by omega)),(h3.block w.heap.size (by omega)).trans h.c,h2⟩,h3⟩
theorem Gr.list {w W:World} {cs:List Value} {v:Value} {xs:List Int} (h:Gr w cs W v xs) {l:Lst} (H:LstR w l):LstR W l:=H.up h.n
theorem Gr.start (w:World) (cs:List Value):Gr w cs ((w.alloc (.cells cs.toArray 26)).alloc (.cells #[] 5)) (.slice (some ⟨w.heap.size+1,0,none⟩) 0 0) []:=by
 obtain ⟨n,c,r⟩:=boxed w cs 26
 exact ⟨n,c,r⟩
theorem Gr.body {w W:World} {cs:List Value} {v:Value} {xs:List Int} (h:Gr w cs W v xs):BodP w xs (.returned v) W:=⟨⟨v,rfl,h.r.base (by omega)⟩,h.n⟩
theorem Gr.one {w W:World} {cs:List Value} {v:Value} {xs:List Int} (h:Gr w cs W v xs) (x:Int) (hl:xs.length≤1099511627775) :
  ∃ v' w',(Builtin.append_ #[22,22] 22 #[v,.slice (some ⟨W.heap.size,0,none⟩) 1 1]).run Tryz.prog (W.alloc (.cells #[.int .u8 x] 5)) = .ok v' w'∧Gr w cs w' v' (xs ++ [x]):=by
 have na:Below W.heap.size W (W.alloc (.cells #[.int .u8 x] 5)):=(Below.refl _ _).alloc (Nat.le_refl _) _
 obtain ⟨v',w',h1,h2,-⟩:=(h.up na).app W.heap.size (some ⟨W.heap.size,0,none⟩) 1 [x] (blk_lit1 W .u8 5 x).own0.rd (fun h=>nomatch h) (by simp;omega)
 exact ⟨v',w',h1,h2⟩
set_option maxRecDepth 100000 in
set_option maxHeartbeats 4000000 in
theorem sbAnswer_any (w:World) (x4 x5 x6 x7 x8 x9 x11 x12:Value) (v:Int) (v0:0≤v) (v1:v≤255) (l2 l3:Lst) (H2:LstR w l2) (H3:LstR w l3) (rs:Bool) :
    Calls Tryz.prog 53 #[.agg #[.int .i64 2,.int .i64 v,.slice l2.a l2.xs.length l2.c,.slice l3.a l3.xs.length l3.c,x4,x5,x6,x7,x8,x9,.bool rs,x11,x12]] w (BodP w (fpL v l2.xs l3.xs ++ [if rs=true then 1 else 0])):=by
  have G0:=Gr.start w [.int .i64 2,.int .i64 v,.slice l2.a l2.xs.length l2.c,.slice l3.a l3.xs.length l3.c,x4,x5,x6,x7,x8,x9,.bool rs,x11,x12]
  have FE:Hid (fpL v l2.xs l3.xs=([v] ++ l2.xs) ++ l3.xs):=by show _=_;unfold fpL;rw [big1 v v0 v1,List.append_assoc]
  rw [FE.out]
  obtain ⟨OUT,hO'⟩:∃ l:List Int,l=(([v] ++ l2.xs) ++ l3.xs) ++ [if rs=true then 1 else 0]:=⟨_,rfl⟩
  rw [← hO']
  have hO:=hide hO'
  clear hO'
  have m2:=H2.m
  have m3:=H3.m
  have k0:=G0.c.cell 0
  have z1:(w.alloc (.cells #[.int .i64 2,.int .i64 v,.slice l2.a l2.xs.length l2.c,.slice l3.a l3.xs.length l3.c,x4,x5,x6,x7,x8,x9,.bool rs,x11,x12] 26)).heap.size=w.heap.size+1:=by simp
  go_enter Tryz.func53,Tryz.ntmps53
  go_upto_region 13 with fail
  clear k0 z1
  obtain ⟨vR,hvR⟩:∃ x,x=Value.slice (some ⟨w.heap.size+1,0,none⟩) 0 0:=⟨_,rfl⟩
  rw [← hvR] at G0 ⊢
  clear hvR
  generalize (w.alloc (.cells #[.int .i64 2,.int .i64 v,.slice l2.a l2.xs.length l2.c,.slice l3.a l3.xs.length l3.c,x4,x5,x6,x7,x8,x9,.bool rs,x11,x12] 26)).alloc (.cells #[] 5)=W2 at *
  have c1:=G0.c.cell 1
  obtain ⟨v1',W3,hap,G1⟩:=G0.one v (by simp)
  have v256:v < 256:=by omega
  clear G0
  go_upto_region 14 with (at_builtin;refine Lib.wpList_append_run _ rfl _ _ 22 22 rfl _ _ rfl rfl _ _ hap ?_)
  clear hap c1
  rw [List.nil_append] at G1
  have nd:Below W3.heap.size W3 W3.drew:=(Below.refl _ _).drew
  have G2:=G1.up nd
  have A68:=hide (G2.app l2.g l2.a l2.c l2.xs (G2.list H2).r H2.z (by simp;omega))
  have A71:Hid (∀ v' W,Gr w #[.int .i64 2,.int .i64 v,.slice l2.a l2.xs.length l2.c,.slice l3.a l3.xs.length l3.c,x4,x5,x6,x7,x8,x9,.bool rs,x11,x12].toList W v' ([v] ++ l2.xs)→∃ v'' w',(Builtin.append_ #[22,22] 22 #[v',.slice l3.a l3.xs.length l3.c]).run Tryz.prog W = .ok v'' w'∧(Gr w #[.int .i64 2,.int .i64 v,.slice l2.a l2.xs.length l2.c,.slice l3.a l3.xs.length l3.c,x4,x5,x6,x7,x8,x9,.bool rs,x11,x12].toList w' v'' (([v] ++ l2.xs) ++ l3.xs)∧Below (w.heap.size+1) W w')):=fun v' W h=>h.app l3.g l3.a l3.c l3.xs (h.list H3).r H3.z (by simp;omega)
  have CY:Hid (∀ W v' zs,Gr w #[.int .i64 2,.int .i64 v,.slice l2.a l2.xs.length l2.c,.slice l3.a l3.xs.length l3.c,x4,x5,x6,x7,x8,x9,.bool rs,x11,x12].toList W v' zs→(W.cell? ⟨w.heap.size,2,none⟩=some (.slice l2.a l2.xs.length l2.c)∧W.cell? ⟨w.heap.size,3,none⟩=some (.slice l3.a l3.xs.length l3.c))):=fun W v' zs h=>⟨h.c.cell 2,h.c.cell 3⟩
  go_region_held3 (fun W=>W.cell? ⟨w.heap.size,2,none⟩=some (.slice l2.a l2.xs.length l2.c)∧W.cell? ⟨w.heap.size,3,none⟩=some (.slice l3.a l3.xs.length l3.c))
    (first | exact (unhide CY) _ _ _ G2 | exact (unhide CY) _ _ _ G3 | exact (unhide CY) _ _ _ G4)
    (first
      | (refine step_append_exM rfl (.tmp 65) (.tmp 67) 22 22 rfl v1' (.slice l2.a l2.xs.length l2.c) rfl rfl _ A68.out ?_;rintro v68 w68 ⟨G3,-⟩;(have B71:=hide ((unhide A71) v68 w68 G3)))
      | (refine step_append_exM rfl (.tmp 68) (.tmp 70) 22 22 rfl v68 (.slice l3.a l3.xs.length l3.c) rfl rfl _ B71.out ?_;rintro v71 w71 ⟨G4,-⟩)
      | fail)
  clear A68 A71 B71 CY G1 G2 G3 nd
  have c10:=G4.c.cell 10
  obtain ⟨ZZ,hZZ⟩:∃ l,l=([v] ++ l2.xs) ++ l3.xs:=⟨_,rfl⟩
  have lZ:Hid (ZZ.length≤2097153):=by show _≤_;rw [hZZ];simp;omega
  rw [← hZZ] at G4 hO
  clear hZZ FE
  cases rs with
  | true =>
    obtain ⟨v5,w5,hap,G5⟩:=G4.one 1 (by have:=lZ.out;omega)
    have FIN:Hid (BodP w OUT (.returned v5) w5):=by show BodP _ _ _ _;rw [hO.out];exact G5.body
    clear G4 G5
    go_wp2_with (at_builtin;refine Lib.wpList_append_run _ rfl _ _ 22 22 rfl _ _ rfl rfl _ _ hap ?_)
    go_ret
    exact FIN.out
  | false =>
    obtain ⟨v5,w5,hap,G5⟩:=G4.one 0 (by have:=lZ.out;omega)
    have FIN:Hid (BodP w OUT (.returned v5) w5):=by show BodP _ _ _ _;rw [hO.out];exact G5.body
    clear G4 G5
    go_wp2_with (at_builtin;refine Lib.wpList_append_run _ rfl _ _ 22 22 rfl _ _ rfl rfl _ _ hap ?_)
    go_ret
    exact FIN.out
end Go.Proofs.YtmmbkkfjiaoeiaaGreat
namespace Go.Proofs.YtmmbkkfjiaoeiaaGreat
open Go Go.RowKit
theorem RwC.kpM {W W':World} {p B:Nat} {zs:List Value} {t X:TypeId} (h:RwC W p zs t) (k:dgK B X W W') (hB:B≤p) (ht:t≠X):RwC W' p zs t:=(k p _ _ _ hB h ht).trans h
theorem Dq.app {w W W':World} {s g:Nat} {a:Option Addr} {c:Nat} {xs:List Int} {B:Nat} {t:Int} {e:TypeId} (h:Dq w W s g a c xs B t) (n:Below B W W') (k:dgK B e W W') (he:e=9∨e=52):Dq w W' s g a c xs B t:=by
 refine ⟨h.d.keep (n.block s h.sB) (fun h0=>n.block g (h.gB h0)),h.sB,h.gB,h.wB,n.os.trans h.os,n.tape.trans h.tape,n.output.trans h.output,Nat.le_trans h.size n.size,fun k hk hn=>(n.block k hk).trans (h.low k hk hn),fun j cs t mk hj hn ej h1 h2=>?_⟩
 have e1:=h.typ j cs t mk hj hn ej h1 h2
 by_cases hB:j < B
 ·exact (n.block j hB).trans e1
 ·exact (k j cs t mk (by omega) (e1.trans ej) (by rcases he with rfl | rfl;exact h1;exact h2)).trans e1
set_option maxRecDepth 100000 in
theorem append_txs (w:World) (ty:TypeId) (base:Nat) (v:Value) (ls ms:List (List UInt8)) (hown:RowT w base v ls) (hl:ls.length≤1000) (hm:ms.length≤100) (hbase:base≤w.heap.size) :
  ∃ v' w',(Builtin.append_ #[23,23] ty #[v,.slice (some ⟨w.heap.size,0,none⟩) ms.length ms.length]).run Tryz.prog (w.alloc (.cells (ms.map tx).toArray 9)) = .ok v' w'∧RowT w' base v' (ls ++ ms)∧Below base w w'∧dgK base 9 w w':=by
 obtain ⟨i,hi,hz,hs,hb⟩:=info_parts infoTx
 have h0:RowT (w.alloc (.cells (ms.map tx).toArray 9)) base v ls:=World.ownsRow.alloc hown _
 have m1:Below base w (w.alloc (.cells (ms.map tx).toArray 9)):=(Below.refl _ _).alloc hbase _
 have m2:Below w.heap.size w (w.alloc (.cells (ms.map tx).toArray 9)):=(Below.refl _ _).alloc (Nat.le_refl _) _
 have hc:∀ j u,(ms.map tx)[j]?=some u→(w.alloc (.cells (ms.map tx).toArray 9)).cell? ((⟨w.heap.size,0,none⟩:Addr).add j)=some u:=by
  intro j u hj
  have e:(w.alloc (.cells (ms.map tx).toArray 9)).heap[w.heap.size]?=some (.cells (ms.map tx).toArray 9):=heap_alloc_new w _
  rw [Addr.add_mid,Nat.zero_add,cell_of_row _ _ j _ _ (0,0) e]
  simpa using hj
 obtain ⟨v',w',h1,h2,h3,_⟩:=run_append_own (P:=Tryz.prog) (w.alloc (.cells (ms.map tx).toArray 9)) base 23 ty 9 i (.string ⟨#[]⟩) 1 16 undTx hi hz hs hb rfl (by decide) v ls.length (ls.map tx) h0 ⟨w.heap.size,0,none⟩ ms.length ms.length (ms.map tx) (by simp) hc (tx_one ms) (by unfold maxLen;omega) (by omega) (by simp;omega)
 refine ⟨v',w',h1,?_,m1.grown h3 (by simp;omega) (fun k hk=>by have:=(World.ownsRow.lt h0 k hk).1;omega),(dgK.up m2).trans (dgK.grown h0 h3)⟩
 show w'.ownsRow base 9 1 v' (ls ++ ms).length ((ls ++ ms).map tx)
 rw [List.length_append,List.map_append]
 exact h2
set_option maxRecDepth 100000 in
theorem dgE.app {W0 W : World} {B : Nat} {v vx : Value} {its : List (List Int)} {X : List Int} {n : Nat} (h : dgE W0 B v its n) (k : dgK B 26 W0 W) (sz : W0.heap.size ≤ W.heap.size) (R : RowB W W0.heap.size vx X) (l : X.length ≤ 10000) (b : Byt X) (hB : B ≤ W0.heap.size) (hn : n ≤ 1000) :
  ∃ v' w',(Builtin.append_ #[24,24] 24 #[v,.slice (some ⟨W.heap.size,0,none⟩) 1 1]).run Tryz.prog (W.alloc (.cells #[vx] 52)) = .ok v' w'∧dgE w' B v' (its ++ [X]) (n+1)∧(∃ a l c,v' = .slice a l c)∧Below B W w'∧dgK B 52 W w':=by
 obtain ⟨bs,R0,l0,b0⟩:=h
 have same:∀ i,i < its.length→0 < (its.getD i []).length→W.heap[(bs.getD i plc0).q]?=W0.heap[(bs.getD i plc0).q]?:=fun i hi h0=>by
  obtain ⟨cs,mk,e⟩:=(b0 i hi).2.2 h0
  exact k _ cs _ mk (R0.h i hi h0).1 e (by decide)
 have R1:BRow W B v its bs:=⟨own_dg R0.o (by decide) k,R0.l,fun i hi=>(R0.b i hi).of (same i hi),R0.h,R0.d⟩
 obtain ⟨ax,cx,gx,rfl,ox,zx,kx,hx⟩:=R.own
 have ob:=R0.o.lt
 obtain ⟨v',w',h1,R2,kp,nB,-⟩:=R1.app X ⟨ax,cx,gx⟩ (by omega) ⟨ox,zx,kx⟩ W0.heap.size hB (fun i hi h0=>R0.lt hi h0) (fun j hj=>(ob j hj).2) hx (by omega)
 have ne:∀ g,W0.heap.size≤g→v.ownBlock≠some g:=fun g hg e=>by have:=(ob g e).2;omega
 have A1:∀ j,j < its.length→(bs ++ [(⟨ax,cx,gx⟩:Plc)]).getD j plc0=bs.getD j plc0:=fun j hj=>by
  have:j < bs.length:=by rw [R0.l];exact hj
  simp [List.getD,List.getElem?_append_left this]
 have A2:∀ j,j < its.length→(its ++ [X]).getD j []=its.getD j []:=fun j hj=>by simp [List.getD,List.getElem?_append_left hj]
 have A3:(bs ++ [(⟨ax,cx,gx⟩:Plc)]).getD its.length plc0=⟨ax,cx,gx⟩:=by rw [← R0.l];simp
 have A4:(its ++ [X]).getD its.length []=X:=by simp
 refine ⟨v',w',h1,⟨bs ++ [(⟨ax,cx,gx⟩:Plc)],R2,by simp;omega,fun j hj=>?_⟩,?_,nB,fun g cs t mk hg hc ht=>kp g (heap_lt hc) (fun e=>?_)⟩
 ·by_cases hj' : j < its.length
  ·rw [A1 j hj', A2 j hj']
   refine ⟨(b0 j hj').1,(b0 j hj').2.1,fun h0=>?_⟩
   obtain ⟨cs,mk,e⟩:=(b0 j hj').2.2 h0
   exact ⟨cs,mk,(kp _ (R1.lt hj' h0) (R1.h j hj' h0).2).trans ((same j hj' h0).trans e)⟩
  ·have ej : j = its.length := by simp at hj; omega
   subst ej
   rw [A3,A4]
   refine ⟨b,l,fun h0=>?_⟩
   rcases R.2 with ⟨_,e⟩ | ⟨g,cap,cur,e,hb,hg,_⟩
   ·omega
   ·obtain ⟨off, ha, hc⟩ := ox h0
    simp only [Value.slice.injEq] at e
    obtain ⟨e1,_⟩:=e
    rw [ha] at e1
    simp only [Option.some.injEq,Addr.mk.injEq,and_true] at e1
    obtain ⟨rfl,_⟩:=e1
    exact ⟨cur,_,(kp gx (heap_lt hg) (ne gx hb)).trans hg⟩
 ·rcases R2.o.2 with ⟨rfl, _⟩ | ⟨g, cap, cur, rfl, _⟩
  ·exact ⟨_,_,_,rfl⟩
  ·exact ⟨_,_,_,rfl⟩
 ·rcases R1.o.2 with ⟨rfl, _⟩ | ⟨q, cap, cur, rfl, hb, hq, _⟩
  ·simp [Value.ownBlock] at e
  ·simp only [Value.ownBlock, Option.some.injEq] at e
   subst e
   rw [hc] at hq
   exact ht (by injection hq with hq;injection hq)
end Go.Proofs.YtmmbkkfjiaoeiaaGreat
