import Derived.Test.YtmmbkkfjiaoeiaaGreatGV13
import Derived.Test.YtmmbkkfjiaoeiaaGreatGV1
import Derived.Test.YtmmbkkfjiaoeiaaGreatGV9
import Derived.Test.YtmmbkkfjiaoeiaaGreatGV11
import Derived.Deep.RegionLaw
import Derived.Deep.DeepMust
import Derived.Test.YtmmbkkfjiaoeiaaGreatGV2
import Derived.Deep.QuietTactic
import Derived.BigQuiet
import Derived.Test.YtmmbkkfjiaoeiaaGreatGV10
import Derived.Test.YtmmbkkfjiaoeiaaGreatGV7
import Derived.Test.YtmmbkkfjiaoeiaaGreatGV5
namespace Go.Proofs.YtmmbkkfjiaoeiaaGreat
open Go Go.RowKit
theorem Cur.only' {w w':World} {p q:Nat} {l:Value} {i:Int} (h:Cur w p l i) (O:Only q w w') (hne:p≠q):Cur w' p l i:=by
 obtain ⟨t,h⟩:=h
 exact ⟨t,(O.block p hne).trans h⟩
set_option maxRecDepth 100000 in
set_option maxHeartbeats 4000000 in
theorem updRead_any (w:World) (q p g:Nat) (a:Option Addr) (c:Nat) (xs:List Int) (t:TypeId) (hq:RwC w q [.int .i64 0] t) (hqp:q≠p) (hC:Cur w p (.slice a xs.length c) ((0:Nat):Int)) (_hpl:p < w.heap.size) (hr:Rd w g a .u8 xs) (hb:Byt xs) (hgp:0 < xs.length→g≠p) (hgq:0 < xs.length→g≠q) (_hc0:a=none→c=0) (_hc:xs.length≤c) (hn:xs.length≤1048576) :
  Calls Tryz.prog 147 #[.pointer (some ⟨q,0,none⟩),.pointer (some ⟨p,0,none⟩)] w fun e w'=>((1≤xs.length∧e = .returned (.tuple #[])∧RwC w' q [.int .i64 (beN xs 0 1)] t∧Cur w' p (.slice a xs.length c) ((1:Nat):Int))∨(xs.length < 1∧Pan e))∧Kq p q w w':=by
 have hql:=hq.lt
 have KT:Tch [p,q] w w:=⟨rfl,rfl,rfl,Nat.le_refl _,fun _ _ _=>rfl⟩
 go_enter Tryz.func147,Tryz.ntmps147
 by_cases h0:1≤xs.length
 rotate_left
 ·have NB := hide (number_bad w p g a c xs 0 1 hC hr hgp (by omega) (by omega) (by omega) (by omega))
  go_wp2_with fail
  refine NB.out.mono ?_
  rintro e v0 ⟨⟨t',v',rfl⟩,O2⟩
  go_wp2
  exact ⟨rfl,.inr ⟨by omega,t',v',rfl⟩,(KT.trans (Tch.of_only O2)).mono (by simp)⟩
 have NM:=hide (numberG_any w p g a c xs 0 1 hC hr hb hgp (by omega) (by omega) (by omega))
 rw [nmV_small hb 0 1 (by decide)] at NM
 go_wp2_with fail
 refine NM.out.mono ?_
 rintro e v0 ⟨rfl,C,O1⟩
 have K:=O1.kp
 clear O1
 clear NM
 have q0:RwC v0 q [.int .i64 0] t:=hq.kp K hqp
 have c0:v0.cell? ⟨q,0,none⟩=some (.int .i64 0):=q0.cell 0
 have f0:=q0.free 0
 have O:=Only.setCell v0 q 0 (.int .i64 (beN xs 0 1))
 have Q':RwC (v0.setCell ⟨q,0,none⟩ (.int .i64 (beN xs 0 1))) q [.int .i64 (beN xs 0 1)] t:=q0.set 0 _
 have KT':Tch [p,q] w (v0.setCell ⟨q,0,none⟩ (.int .i64 (beN xs 0 1))):=(((KT.trans K.tch).trans (Tch.of_only O)).mono (by simp))
 have C':Cur (v0.setCell ⟨q,0,none⟩ (.int .i64 (beN xs 0 1))) p (.slice a xs.length c) ((1:Nat):Int):=C.only' O (by omega)
 have R':Rd (v0.setCell ⟨q,0,none⟩ (.int .i64 (beN xs 0 1))) g a .u8 xs:=(hr.of_block' (fun h=>K.block g (hr.lt h) (hgp h))).of_block' (fun h=>O.block g (hgq h))
 clear hq q0 KT K O C hC hr
 go_wp2
 go_end0
 exact ⟨.inl ⟨h0,rfl,Q',C'⟩,KT'⟩
set_option maxRecDepth 100000 in
set_option maxHeartbeats 4000000 in
theorem finRead_any (w:World) (q p g:Nat) (a:Option Addr) (c:Nat) (xs:List Int) (t:TypeId) (hq:RwC w q [.slice none 0 0] t) (hqp:q≠p) (hC:Cur w p (.slice a xs.length c) ((0:Nat):Int)) (_hpl:p < w.heap.size) (hr:Rd w g a .u8 xs) (_hb:Byt xs) (hgp:0 < xs.length→g≠p) (hgq:0 < xs.length→g≠q) (hc0:a=none→c=0) (hc:xs.length≤c) (hn:xs.length≤1048576) :
  Calls Tryz.prog 143 #[.pointer (some ⟨q,0,none⟩),.pointer (some ⟨p,0,none⟩)] w fun e w'=>((32≤xs.length∧e = .returned (.tuple #[])∧∃ G0,RwC w' q [.slice (some ⟨G0,0,none⟩) 32 32] t∧Cur w' p (.slice a xs.length c) ((32:Nat):Int)∧Blk w' G0 .u8 (tkB xs 0 32)∧w.heap.size≤G0)∨(xs.length < 32∧Pan e))∧Kq p q w w':=by
 have hql:=hq.lt
 have KT:Tch [p,q] w w:=⟨rfl,rfl,rfl,Nat.le_refl _,fun _ _ _=>rfl⟩
 go_enter Tryz.func143,Tryz.ntmps143
 by_cases h0:32≤xs.length
 rotate_left
 ·have NB := hide (takeList_bad w p a xs.length c 0 32 hC (by omega) hn (by omega))
  go_wp2_with fail
  refine NB.out.mono ?_
  rintro e v0 ⟨⟨t',v',rfl⟩,O2⟩
  go_wp2
  exact ⟨rfl,.inr ⟨by omega,t',v',rfl⟩,(KT.trans (Tch.of_only O2)).mono (by simp)⟩
 have NM:=hide (takeList_any w p g a c xs 0 32 hC hr hc0 hc hn (by omega) (by omega))
 rw [tkB_take xs 0 32 (by omega)] at NM
 go_wp2_with fail
 refine NM.out.mono ?_
 rintro e v0 ⟨rfl,B0,C,K⟩
 have l0:=KT.size
 clear NM
 have q0:RwC v0 q [.slice none 0 0] t:=hq.kp K hqp
 have c0:v0.cell? ⟨q,0,none⟩=some (.slice none 0 0):=q0.cell 0
 have f0:=q0.free 0
 have O:=Only.setCell v0 q 0 (.slice (some ⟨w.heap.size,0,none⟩) 32 32)
 have Q':RwC (v0.setCell ⟨q,0,none⟩ (.slice (some ⟨w.heap.size,0,none⟩) 32 32)) q [.slice (some ⟨w.heap.size,0,none⟩) 32 32] t:=q0.set 0 _
 have KT':Tch [p,q] w (v0.setCell ⟨q,0,none⟩ (.slice (some ⟨w.heap.size,0,none⟩) 32 32)):=(((KT.trans K.tch).trans (Tch.of_only O)).mono (by simp))
 have C':Cur (v0.setCell ⟨q,0,none⟩ (.slice (some ⟨w.heap.size,0,none⟩) 32 32)) p (.slice a xs.length c) ((32:Nat):Int):=C.only' O (by omega)
 have R':Rd (v0.setCell ⟨q,0,none⟩ (.slice (some ⟨w.heap.size,0,none⟩) 32 32)) g a .u8 xs:=(hr.of_block' (fun h=>K.block g (hr.lt h) (hgp h))).of_block' (fun h=>O.block g (hgq h))
 replace B0:=B0.of_block (O.block (w.heap.size) (by omega))
 clear hq q0 KT K O C hC hr
 go_wp2
 go_end0
 exact ⟨.inl ⟨h0,rfl,w.heap.size,Q',C',B0,by omega⟩,KT'⟩
set_option maxRecDepth 100000 in
set_option maxHeartbeats 4000000 in
theorem firstRead_any (w:World) (q p g:Nat) (a:Option Addr) (c:Nat) (xs:List Int) (t:TypeId) (rest:List Value) (hq:RwC w q (.int .i64 0 :: .slice none 0 0 :: .slice none 0 0 :: rest) t) (hqp:q≠p) (hC:Cur w p (.slice a xs.length c) ((0:Nat):Int)) (_hpl:p < w.heap.size) (hr:Rd w g a .u8 xs) (hb:Byt xs) (hgp:0 < xs.length→g≠p) (hgq:0 < xs.length→g≠q) (hc0:a=none→c=0) (hc:xs.length≤c) (hn:xs.length≤1048576) :
  Calls Tryz.prog 101 #[.pointer (some ⟨q,0,none⟩),.pointer (some ⟨p,0,none⟩)] w fun e w'=>((65≤xs.length∧e = .returned (.tuple #[])∧∃ G1 G2,RwC w' q (.int .i64 (beN xs 0 1) :: .slice (some ⟨G1,0,none⟩) 32 32 :: .slice (some ⟨G2,0,none⟩) 32 32 :: rest) t∧Cur w' p (.slice a xs.length c) ((65:Nat):Int)∧Blk w' G1 .u8 (tkB xs 1 32)∧w.heap.size≤G1∧Blk w' G2 .u8 (tkB xs 33 32)∧w.heap.size≤G2∧G1 < G2)∨(xs.length < 65∧Pan e))∧Kq p q w w':=by
 have hql:=hq.lt
 have KT:Tch [p,q] w w:=⟨rfl,rfl,rfl,Nat.le_refl _,fun _ _ _=>rfl⟩
 go_enter Tryz.func101,Tryz.ntmps101
 by_cases h0:1≤xs.length
 rotate_left
 ·have NB := hide (number_bad w p g a c xs 0 1 hC hr hgp (by omega) (by omega) (by omega) (by omega))
  go_wp2_with fail
  refine NB.out.mono ?_
  rintro e v0 ⟨⟨t',v',rfl⟩,O2⟩
  go_wp2
  exact ⟨rfl,.inr ⟨by omega,t',v',rfl⟩,(KT.trans (Tch.of_only O2)).mono (by simp)⟩
 have NM:=hide (numberG_any w p g a c xs 0 1 hC hr hb hgp (by omega) (by omega) (by omega))
 rw [nmV_small hb 0 1 (by decide)] at NM
 go_wp2_with fail
 refine NM.out.mono ?_
 rintro e v0 ⟨rfl,C,O1⟩
 have K:=O1.kp
 clear O1
 clear NM
 have q0:RwC v0 q (.int .i64 0 :: .slice none 0 0 :: .slice none 0 0 :: rest) t:=hq.kp K hqp
 have c0:v0.cell? ⟨q,0,none⟩=some (.int .i64 0):=q0.cell 0
 have f0:=q0.free 0
 have O:=Only.setCell v0 q 0 (.int .i64 (beN xs 0 1))
 have Q':RwC (v0.setCell ⟨q,0,none⟩ (.int .i64 (beN xs 0 1))) q (.int .i64 (beN xs 0 1) :: .slice none 0 0 :: .slice none 0 0 :: rest) t:=q0.set 0 _
 have KT':Tch [p,q] w (v0.setCell ⟨q,0,none⟩ (.int .i64 (beN xs 0 1))):=(((KT.trans K.tch).trans (Tch.of_only O)).mono (by simp))
 have C':Cur (v0.setCell ⟨q,0,none⟩ (.int .i64 (beN xs 0 1))) p (.slice a xs.length c) ((1:Nat):Int):=C.only' O (by omega)
 have R':Rd (v0.setCell ⟨q,0,none⟩ (.int .i64 (beN xs 0 1))) g a .u8 xs:=(hr.of_block' (fun h=>K.block g (hr.lt h) (hgp h))).of_block' (fun h=>O.block g (hgq h))
 clear hq q0 KT K O C hC hr
 go_upto_region 1 with fail
 generalize v0.setCell ⟨q,0,none⟩ (.int .i64 (beN xs 0 1))=w1 at *
 have hq:=Q'
 have KT:=KT'
 have hC:=C'
 have hr:=R'
 clear Q' KT' C' R' c0 f0
 by_cases h1:33≤xs.length
 rotate_left
 ·have NB := hide (takeList_bad w1 p a xs.length c 1 32 hC (by omega) hn (by omega))
  go_wp2_with fail
  refine NB.out.mono ?_
  rintro e v1 ⟨⟨t',v',rfl⟩,O2⟩
  go_wp2
  exact ⟨rfl,.inr ⟨by omega,t',v',rfl⟩,(KT.trans (Tch.of_only O2)).mono (by simp)⟩
 have NM:=hide (takeList_any w1 p g a c xs 1 32 hC hr hc0 hc hn (by omega) (by omega))
 rw [tkB_take xs 1 32 (by omega)] at NM
 go_wp2_with fail
 refine NM.out.mono ?_
 rintro e v1 ⟨rfl,B1,C,K⟩
 have l1:=KT.size
 clear NM
 have q1:RwC v1 q (.int .i64 (beN xs 0 1) :: .slice none 0 0 :: .slice none 0 0 :: rest) t:=hq.kp K hqp
 have c1:v1.cell? ⟨q,1,none⟩=some (.slice none 0 0):=q1.cell 1
 have f1:=q1.free 1
 have O:=Only.setCell v1 q 1 (.slice (some ⟨w1.heap.size,0,none⟩) 32 32)
 have Q':RwC (v1.setCell ⟨q,1,none⟩ (.slice (some ⟨w1.heap.size,0,none⟩) 32 32)) q (.int .i64 (beN xs 0 1) :: .slice (some ⟨w1.heap.size,0,none⟩) 32 32 :: .slice none 0 0 :: rest) t:=q1.set 1 _
 have KT':Tch [p,q] w (v1.setCell ⟨q,1,none⟩ (.slice (some ⟨w1.heap.size,0,none⟩) 32 32)):=(((KT.trans K.tch).trans (Tch.of_only O)).mono (by simp))
 have C':Cur (v1.setCell ⟨q,1,none⟩ (.slice (some ⟨w1.heap.size,0,none⟩) 32 32)) p (.slice a xs.length c) ((33:Nat):Int):=C.only' O (by omega)
 have R':Rd (v1.setCell ⟨q,1,none⟩ (.slice (some ⟨w1.heap.size,0,none⟩) 32 32)) g a .u8 xs:=(hr.of_block' (fun h=>K.block g (hr.lt h) (hgp h))).of_block' (fun h=>O.block g (hgq h))
 replace B1:=B1.of_block (O.block (w1.heap.size) (by omega))
 clear hq q1 KT K O C hC hr
 go_upto_region 2 with fail
 generalize v1.setCell ⟨q,1,none⟩ (.slice (some ⟨w1.heap.size,0,none⟩) 32 32)=w2 at *
 have hq:=Q'
 have KT:=KT'
 have hC:=C'
 have hr:=R'
 clear Q' KT' C' R' c1 f1
 have od1:=B1.lt
 by_cases h2:65≤xs.length
 rotate_left
 ·have NB := hide (takeList_bad w2 p a xs.length c 33 32 hC (by omega) hn (by omega))
  go_wp2_with fail
  refine NB.out.mono ?_
  rintro e v2 ⟨⟨t',v',rfl⟩,O2⟩
  go_wp2
  exact ⟨rfl,.inr ⟨by omega,t',v',rfl⟩,(KT.trans (Tch.of_only O2)).mono (by simp)⟩
 have NM:=hide (takeList_any w2 p g a c xs 33 32 hC hr hc0 hc hn (by omega) (by omega))
 rw [tkB_take xs 33 32 (by omega)] at NM
 go_wp2_with fail
 refine NM.out.mono ?_
 rintro e v2 ⟨rfl,B2,C,K⟩
 have l2:=KT.size
 clear NM
 have q2:RwC v2 q (.int .i64 (beN xs 0 1) :: .slice (some ⟨w1.heap.size,0,none⟩) 32 32 :: .slice none 0 0 :: rest) t:=hq.kp K hqp
 have c2:v2.cell? ⟨q,2,none⟩=some (.slice none 0 0):=q2.cell 2
 have f2:=q2.free 2
 have O:=Only.setCell v2 q 2 (.slice (some ⟨w2.heap.size,0,none⟩) 32 32)
 have Q':RwC (v2.setCell ⟨q,2,none⟩ (.slice (some ⟨w2.heap.size,0,none⟩) 32 32)) q (.int .i64 (beN xs 0 1) :: .slice (some ⟨w1.heap.size,0,none⟩) 32 32 :: .slice (some ⟨w2.heap.size,0,none⟩) 32 32 :: rest) t:=q2.set 2 _
 have KT':Tch [p,q] w (v2.setCell ⟨q,2,none⟩ (.slice (some ⟨w2.heap.size,0,none⟩) 32 32)):=(((KT.trans K.tch).trans (Tch.of_only O)).mono (by simp))
 have C':Cur (v2.setCell ⟨q,2,none⟩ (.slice (some ⟨w2.heap.size,0,none⟩) 32 32)) p (.slice a xs.length c) ((65:Nat):Int):=C.only' O (by omega)
 have R':Rd (v2.setCell ⟨q,2,none⟩ (.slice (some ⟨w2.heap.size,0,none⟩) 32 32)) g a .u8 xs:=(hr.of_block' (fun h=>K.block g (hr.lt h) (hgp h))).of_block' (fun h=>O.block g (hgq h))
 replace B1:=(B1.kp K (by omega)).of_block (O.block (w1.heap.size) (by omega))
 replace B2:=B2.of_block (O.block (w2.heap.size) (by omega))
 clear hq q2 KT K O C hC hr
 go_wp2
 go_end0
 exact ⟨.inl ⟨h2,rfl,w1.heap.size,w2.heap.size,Q',C',B1,by omega,B2,by omega,by omega⟩,KT'⟩
set_option maxRecDepth 100000 in
set_option maxHeartbeats 4000000 in
theorem tickRead_any (w:World) (q p g:Nat) (a:Option Addr) (c:Nat) (xs:List Int) (t:TypeId) (hq:RwC w q [.int .i64 0,.int .i64 0,.slice none 0 0,.slice none 0 0] t) (hqp:q≠p) (hC:Cur w p (.slice a xs.length c) ((0:Nat):Int)) (_hpl:p < w.heap.size) (hr:Rd w g a .u8 xs) (hb:Byt xs) (hgp:0 < xs.length→g≠p) (hgq:0 < xs.length→g≠q) (hc0:a=none→c=0) (hc:xs.length≤c) (hn:xs.length≤1048576) :
  Calls Tryz.prog 119 #[.pointer (some ⟨q,0,none⟩),.pointer (some ⟨p,0,none⟩)] w fun e w'=>((42+(beN xs 40 2).toNat≤xs.length∧e = .returned (.tuple #[])∧∃ G2 G3,RwC w' q [.int .i64 (beN xs 0 4),.int .i64 (beN xs 4 4),.slice (some ⟨G2,0,none⟩) 32 32,.slice (some ⟨G3,0,none⟩) (beN xs 40 2).toNat (beN xs 40 2).toNat] t∧Blk w' G2 .u8 (tkB xs 8 32)∧w.heap.size≤G2∧Blk w' G3 .u8 (tkB xs 42 (beN xs 40 2).toNat)∧w.heap.size≤G3∧G2 < G3)∨(xs.length < 42+(beN xs 40 2).toNat∧Pan e))∧Kq p q w w':=by
 have hql:=hq.lt
 have KT:Tch [p,q] w w:=⟨rfl,rfl,rfl,Nat.le_refl _,fun _ _ _=>rfl⟩
 go_enter Tryz.func119,Tryz.ntmps119
 by_cases h0:4≤xs.length
 rotate_left
 ·have NB := hide (number_bad w p g a c xs 0 4 hC hr hgp (by omega) (by omega) (by omega) (by omega))
  go_wp2_with fail
  refine NB.out.mono ?_
  rintro e v0 ⟨⟨t',v',rfl⟩,O2⟩
  go_wp2
  exact ⟨rfl,.inr ⟨by omega,t',v',rfl⟩,(KT.trans (Tch.of_only O2)).mono (by simp)⟩
 have NM:=hide (numberG_any w p g a c xs 0 4 hC hr hb hgp (by omega) (by omega) (by omega))
 rw [nmV_small hb 0 4 (by decide)] at NM
 go_wp2_with fail
 refine NM.out.mono ?_
 rintro e v0 ⟨rfl,C,O1⟩
 have K:=O1.kp
 clear O1
 clear NM
 have q0:RwC v0 q [.int .i64 0,.int .i64 0,.slice none 0 0,.slice none 0 0] t:=hq.kp K hqp
 have c0:v0.cell? ⟨q,0,none⟩=some (.int .i64 0):=q0.cell 0
 have f0:=q0.free 0
 have O:=Only.setCell v0 q 0 (.int .i64 (beN xs 0 4))
 have Q':RwC (v0.setCell ⟨q,0,none⟩ (.int .i64 (beN xs 0 4))) q [.int .i64 (beN xs 0 4),.int .i64 0,.slice none 0 0,.slice none 0 0] t:=q0.set 0 _
 have KT':Tch [p,q] w (v0.setCell ⟨q,0,none⟩ (.int .i64 (beN xs 0 4))):=(((KT.trans K.tch).trans (Tch.of_only O)).mono (by simp))
 have C':Cur (v0.setCell ⟨q,0,none⟩ (.int .i64 (beN xs 0 4))) p (.slice a xs.length c) ((4:Nat):Int):=C.only' O (by omega)
 have R':Rd (v0.setCell ⟨q,0,none⟩ (.int .i64 (beN xs 0 4))) g a .u8 xs:=(hr.of_block' (fun h=>K.block g (hr.lt h) (hgp h))).of_block' (fun h=>O.block g (hgq h))
 clear hq q0 KT K O C hC hr
 go_upto_region 1 with fail
 generalize v0.setCell ⟨q,0,none⟩ (.int .i64 (beN xs 0 4))=w1 at *
 have hq:=Q'
 have KT:=KT'
 have hC:=C'
 have hr:=R'
 clear Q' KT' C' R' c0 f0
 by_cases h1:8≤xs.length
 rotate_left
 ·have NB := hide (number_bad w1 p g a c xs 4 4 hC hr hgp (by omega) (by omega) (by omega) (by omega))
  go_wp2_with fail
  refine NB.out.mono ?_
  rintro e v1 ⟨⟨t',v',rfl⟩,O2⟩
  go_wp2
  exact ⟨rfl,.inr ⟨by omega,t',v',rfl⟩,(KT.trans (Tch.of_only O2)).mono (by simp)⟩
 have NM:=hide (numberG_any w1 p g a c xs 4 4 hC hr hb hgp (by omega) (by omega) (by omega))
 rw [nmV_small hb 4 4 (by decide)] at NM
 go_wp2_with fail
 refine NM.out.mono ?_
 rintro e v1 ⟨rfl,C,O1⟩
 have K:=O1.kp
 clear O1
 clear NM
 have q1:RwC v1 q [.int .i64 (beN xs 0 4),.int .i64 0,.slice none 0 0,.slice none 0 0] t:=hq.kp K hqp
 have c1:v1.cell? ⟨q,1,none⟩=some (.int .i64 0):=q1.cell 1
 have f1:=q1.free 1
 have O:=Only.setCell v1 q 1 (.int .i64 (beN xs 4 4))
 have Q':RwC (v1.setCell ⟨q,1,none⟩ (.int .i64 (beN xs 4 4))) q [.int .i64 (beN xs 0 4),.int .i64 (beN xs 4 4),.slice none 0 0,.slice none 0 0] t:=q1.set 1 _
 have KT':Tch [p,q] w (v1.setCell ⟨q,1,none⟩ (.int .i64 (beN xs 4 4))):=(((KT.trans K.tch).trans (Tch.of_only O)).mono (by simp))
 have C':Cur (v1.setCell ⟨q,1,none⟩ (.int .i64 (beN xs 4 4))) p (.slice a xs.length c) ((8:Nat):Int):=C.only' O (by omega)
 have R':Rd (v1.setCell ⟨q,1,none⟩ (.int .i64 (beN xs 4 4))) g a .u8 xs:=(hr.of_block' (fun h=>K.block g (hr.lt h) (hgp h))).of_block' (fun h=>O.block g (hgq h))
 clear hq q1 KT K O C hC hr
 go_upto_region 2 with fail
 generalize v1.setCell ⟨q,1,none⟩ (.int .i64 (beN xs 4 4))=w2 at *
 have hq:=Q'
 have KT:=KT'
 have hC:=C'
 have hr:=R'
 clear Q' KT' C' R' c1 f1
 by_cases h2:40≤xs.length
 rotate_left
 ·have NB := hide (takeList_bad w2 p a xs.length c 8 32 hC (by omega) hn (by omega))
  go_wp2_with fail
  refine NB.out.mono ?_
  rintro e v2 ⟨⟨t',v',rfl⟩,O2⟩
  go_wp2
  exact ⟨rfl,.inr ⟨by omega,t',v',rfl⟩,(KT.trans (Tch.of_only O2)).mono (by simp)⟩
 have NM:=hide (takeList_any w2 p g a c xs 8 32 hC hr hc0 hc hn (by omega) (by omega))
 rw [tkB_take xs 8 32 (by omega)] at NM
 go_wp2_with fail
 refine NM.out.mono ?_
 rintro e v2 ⟨rfl,B2,C,K⟩
 have l2:=KT.size
 clear NM
 have q2:RwC v2 q [.int .i64 (beN xs 0 4),.int .i64 (beN xs 4 4),.slice none 0 0,.slice none 0 0] t:=hq.kp K hqp
 have c2:v2.cell? ⟨q,2,none⟩=some (.slice none 0 0):=q2.cell 2
 have f2:=q2.free 2
 have O:=Only.setCell v2 q 2 (.slice (some ⟨w2.heap.size,0,none⟩) 32 32)
 have Q':RwC (v2.setCell ⟨q,2,none⟩ (.slice (some ⟨w2.heap.size,0,none⟩) 32 32)) q [.int .i64 (beN xs 0 4),.int .i64 (beN xs 4 4),.slice (some ⟨w2.heap.size,0,none⟩) 32 32,.slice none 0 0] t:=q2.set 2 _
 have KT':Tch [p,q] w (v2.setCell ⟨q,2,none⟩ (.slice (some ⟨w2.heap.size,0,none⟩) 32 32)):=(((KT.trans K.tch).trans (Tch.of_only O)).mono (by simp))
 have C':Cur (v2.setCell ⟨q,2,none⟩ (.slice (some ⟨w2.heap.size,0,none⟩) 32 32)) p (.slice a xs.length c) ((40:Nat):Int):=C.only' O (by omega)
 have R':Rd (v2.setCell ⟨q,2,none⟩ (.slice (some ⟨w2.heap.size,0,none⟩) 32 32)) g a .u8 xs:=(hr.of_block' (fun h=>K.block g (hr.lt h) (hgp h))).of_block' (fun h=>O.block g (hgq h))
 replace B2:=B2.of_block (O.block (w2.heap.size) (by omega))
 clear hq q2 KT K O C hC hr
 go_upto_region 3 with fail
 generalize v2.setCell ⟨q,2,none⟩ (.slice (some ⟨w2.heap.size,0,none⟩) 32 32)=w3 at *
 have hq:=Q'
 have KT:=KT'
 have hC:=C'
 have hr:=R'
 clear Q' KT' C' R' c2 f2
 have od2:=B2.lt
 have lL:=KT.size
 have LG:=hide (long_any w3 p g a c xs 40 hC hr hb hgp hc0 hc hn (by omega))
 go_wp2_with fail
 refine LG.out.mono ?_
 rintro e v3 ⟨⟨h3,⟨G3,rfl,B3,l3⟩,-⟩ | ⟨h3,t',v',rfl⟩,K⟩
 rotate_left
 ·go_wp2
  exact ⟨rfl,.inr ⟨by omega,t',v',rfl⟩,(KT.trans (K.tch)).mono (by simp)⟩
 have q3:RwC v3 q [.int .i64 (beN xs 0 4),.int .i64 (beN xs 4 4),.slice (some ⟨w2.heap.size,0,none⟩) 32 32,.slice none 0 0] t:=hq.kp K hqp
 have c3:v3.cell? ⟨q,3,none⟩=some (.slice none 0 0):=q3.cell 3
 have f3:=q3.free 3
 have O:=Only.setCell v3 q 3 (.slice (some ⟨G3,0,none⟩) (beN xs 40 2).toNat (beN xs 40 2).toNat)
 have Q':RwC (v3.setCell ⟨q,3,none⟩ (.slice (some ⟨G3,0,none⟩) (beN xs 40 2).toNat (beN xs 40 2).toNat)) q [.int .i64 (beN xs 0 4),.int .i64 (beN xs 4 4),.slice (some ⟨w2.heap.size,0,none⟩) 32 32,.slice (some ⟨G3,0,none⟩) (beN xs 40 2).toNat (beN xs 40 2).toNat] t:=q3.set 3 _
 have KT':Tch [p,q] w (v3.setCell ⟨q,3,none⟩ (.slice (some ⟨G3,0,none⟩) (beN xs 40 2).toNat (beN xs 40 2).toNat)):=(((KT.trans K.tch).trans (Tch.of_only O)).mono (by simp))
 replace B2:=(B2.kp K (by omega)).of_block (O.block (w2.heap.size) (by omega))
 replace B3:=B3.of_block (O.block (G3) (by omega))
 clear hq q3 KT K O
 go_wp2
 go_end0
 exact ⟨.inl ⟨h3,rfl,w2.heap.size,G3,Q',B2,by omega,B3,by omega,by omega⟩,KT'⟩
end Go.Proofs.YtmmbkkfjiaoeiaaGreat
namespace Go.Proofs.YtmmbkkfjiaoeiaaGreat
open Go Go.RowKit
theorem Rd.tchK {w w':World} {S:List Nat} {g:Nat} {a:Option Addr} {xs:List Int} (h:Rd w g a .u8 xs) (m:Tch S w w') (hne:0 < xs.length→g ∉ S):Rd w' g a .u8 xs:=h.of_block' (fun h0=>m.block g (h.lt h0) (hne h0))
set_option maxRecDepth 100000 in
set_option maxHeartbeats 4000000 in
theorem ansRead_any (w:World) (q p g:Nat) (a:Option Addr) (c:Nat) (xs:List Int) (t:TypeId) (hq:RwC w q [.int .i64 0,.slice none 0 0,.slice none 0 0,.bool false] t) (hqp:q≠p) (hC:Cur w p (.slice a xs.length c) ((0:Nat):Int)) (hpl:p < w.heap.size) (hr:Rd w g a .u8 xs) (hb:Byt xs) (hgp:0 < xs.length→g≠p) (hgq:0 < xs.length→g≠q) (hc0:a=none→c=0) (hc:xs.length≤c) (hn:xs.length≤1048576) :
  Calls Tryz.prog 115 #[.pointer (some ⟨q,0,none⟩),.pointer (some ⟨p,0,none⟩)] w fun e w'=>((66≤xs.length∧e = .returned (.tuple #[])∧∃ G1 G2,RwC w' q [.int .i64 (beN xs 0 1),.slice (some ⟨G1,0,none⟩) 32 32,.slice (some ⟨G2,0,none⟩) 32 32,.bool (beN xs 65 1 == 1)] t∧Blk w' G1 .u8 (tkB xs 1 32)∧w.heap.size≤G1∧Blk w' G2 .u8 (tkB xs 33 32)∧w.heap.size≤G2∧G1 < G2)∨(xs.length < 66∧Pan e))∧Kq p q w w':=by
 have FR:=hide (firstRead_any w q p g a c xs t [.bool false] hq hqp hC hpl hr hb hgp hgq hc0 hc hn)
 have hql:=hq.lt
 clear hq hC
 go_enter Tryz.func115,Tryz.ntmps115
 go_wp2_with fail
 refine FR.out.mono ?_
 rintro e w1 ⟨⟨h1,rfl,G1,G2,Q,C,B1,l1,B2,l2,o12⟩ | ⟨h1,t',v',rfl⟩,T⟩
 rotate_left
 ·go_wp2
  exact ⟨rfl,.inr ⟨by omega,t',v',rfl⟩,T⟩
 have T:Tch [p,q] w w1:=T
 have hr1:=hr.tchK T (fun h0=>by have:=hgp h0;have:=hgq h0;simp;omega)
 clear FR hr
 by_cases h2:66≤xs.length
 rotate_left
 ·have NB := hide (number_bad w1 p g a c xs 65 1 C hr1 hgp (by omega) (by omega) (by omega) (by omega))
  go_wp2_with fail
  refine NB.out.mono ?_
  rintro e v1 ⟨⟨t',v',rfl⟩,O2⟩
  go_wp2
  exact ⟨rfl,.inr ⟨by omega,t',v',rfl⟩,(T.trans (Tch.of_only O2)).mono (by simp)⟩
 have NM:=hide (numberG_any w1 p g a c xs 65 1 C hr1 hb hgp (by omega) (by omega) (by omega))
 rw [nmV_small hb 65 1 (by decide)] at NM
 go_wp2_with fail
 refine NM.out.mono ?_
 rintro e v1 ⟨rfl,-,O1⟩
 have K:=O1.kp
 clear NM O1 C hr1
 have Q1:RwC v1 q [.int .i64 (beN xs 0 1),.slice (some ⟨G1,0,none⟩) 32 32,.slice (some ⟨G2,0,none⟩) 32 32,.bool false] t:=Q.kp K hqp
 have c3:v1.cell? ⟨q,3,none⟩=some (.bool false):=Q1.cell 3
 have f3:=Q1.free 3
 have O:=Only.setCell v1 q 3 (.bool (beN xs 65 1 == 1))
 have Q':Hid (RwC (v1.setCell ⟨q,3,none⟩ (.bool (beN xs 65 1 == 1))) q [.int .i64 (beN xs 0 1),.slice (some ⟨G1,0,none⟩) 32 32,.slice (some ⟨G2,0,none⟩) 32 32,.bool (beN xs 65 1 == 1)] t):=Q1.set 3 _
 have T':Hid (Kq p q w (v1.setCell ⟨q,3,none⟩ (.bool (beN xs 65 1 == 1)))):=((T.trans K.tch).trans (Tch.of_only O)).mono (by simp)
 have D1:=hide ((B1.kp K (by omega)).of_block (O.block G1 (by omega)))
 have D2:=hide ((B2.kp K (by omega)).of_block (O.block G2 (by omega)))
 clear Q Q1 T K O B1 B2
 go_wp2
 go_end0
 exact ⟨.inl ⟨h2,rfl,G1,G2,Q'.out,D1.out,l1,D2.out,l2,o12⟩,T'.out⟩
end Go.Proofs.YtmmbkkfjiaoeiaaGreat
namespace Go.Proofs.YtmmbkkfjiaoeiaaGreat
open Go Go.RowKit
def ppT (xs:List Int) (i:Nat):Nat→Nat
 | 0=>i
 | k+1=>ppT xs i k+1+(beN xs (ppT xs i k) 1).toNat
def txT (xs:List Int) (i k:Nat):List (List UInt8):=(List.range k).map fun j=>txB (tkB xs (ppT xs i j+1) (beN xs (ppT xs i j) 1).toNat)
theorem txT_len (xs:List Int) (i k:Nat):(txT xs i k).length=k:=by simp [txT]
theorem txT_step (xs:List Int) (i k:Nat):txT xs i (k+1)=txT xs i k ++ [txB (tkB xs (ppT xs i k+1) (beN xs (ppT xs i k) 1).toNat)]:=by simp [txT,List.range_succ]
theorem ppT_le (xs:List Int) (i k n:Nat) (h:k≤n):ppT xs i k≤ppT xs i n:=by
  induction n with
  | zero => obtain rfl : k = 0 := by omega
            exact Nat.le_refl _
  | succ n ih =>
    by_cases e:k=n+1
    · subst e
      exact Nat.le_refl _
    · have := ih (by omega)
      show _≤ppT xs i n+1+_
      omega
theorem RowT.kp {w w':World} {base p:Nat} {v:Value} {ls:List (List UInt8)} (h:RowT w base v ls) (n:Kp p w w') (hp:p < base):RowT w' base v ls:=by
 refine ⟨h.1,?_⟩
 rcases h.2 with h' | ⟨g,cap,cur,rfl,hbg,hg,hnc,hcm,hcs,ht⟩
 ·exact .inl h'
 ·exact .inr ⟨g,cap,cur,rfl,hbg,by rw [n.block g ((Array.getElem?_eq_some_iff.1 hg).1) (by omega)];exact hg,hnc,hcm,hcs,ht⟩
theorem Kp.below' {p B:Nat} {w v v':World} (h:Kp p w v) (n:Below B v v') (hB:w.heap.size≤B):Kp p w v' :=
 ⟨n.os.trans h.os,n.tape.trans h.tape,n.output.trans h.output,Nat.le_trans h.size n.size,fun k hk hp=>(n.block k (by omega)).trans (h.block k hk hp)⟩
theorem Cur.belw {w w':World} {p B:Nat} {l:Value} {i:Int} (h:Cur w p l i) (n:Below B w w') (hp:p < B):Cur w' p l i:=by
 obtain ⟨t,h⟩:=h
 exact ⟨t,(n.block p hp).trans h⟩
set_option maxRecDepth 100000 in
set_option maxHeartbeats 4000000 in
theorem shorts_any (w : World) (p g : Nat) (a : Option Addr) (c : Nat) (xs : List Int) (i : Nat) (hC : Cur w p (.slice a xs.length c) i) (hpl : p < w.heap.size) (hr : Rd w g a .u8 xs) (hb : Byt xs) (hgp : 0 < xs.length → g ≠ p) (hc0 : a = none → c = 0) (hc : xs.length ≤ c) (hn : xs.length ≤ 1048576) (hi : i ≤ xs.length) :
  Calls Tryz.prog 103 #[.pointer (some ⟨p,0,none⟩)] w fun e w'=>((i < xs.length∧ppT xs (i+1) (xs.getD i 0).toNat≤xs.length∧(∃ v,e = .returned v∧RowT w' w.heap.size v (txT xs (i+1) (xs.getD i 0).toNat))∧Cur w' p (.slice a xs.length c) ((ppT xs (i+1) (xs.getD i 0).toNat:Nat):Int))∨(¬ (i < xs.length∧ppT xs (i+1) (xs.getD i 0).toNat≤xs.length)∧Pan e))∧Kp p w w':=by
 by_cases h1:i < xs.length
 rotate_left
 ·have TB := hide (take_bad w p a xs.length c i hC (by omega))
  have H:=hide h1
  clear hC hr h1
  go_enter Tryz.func103,Tryz.ntmps103
  go_wp2_with fail
  refine TB.out.mono ?_
  rintro e v1 ⟨⟨t',v',rfl⟩,O2⟩
  go_wp2
  exact ⟨rfl,.inr ⟨fun h=>H.out h.1,t',v',rfl⟩,O2.kp⟩
 have TK:=hide (take_ok w p g a c xs i hC hr h1 (by omega))
 have bx:=hb i
 obtain ⟨n,hn1⟩:=Int.eq_ofNat_of_zero_le bx.1
 have e1:(xs.getD i 0).toNat=n:=by omega
 rw [e1]
 rw [hn1] at TK
 have n256:n < 256:=by omega
 clear hn1 e1 hC
 go_enter Tryz.func103,Tryz.ntmps103
 go_wp2_with fail
 refine TK.out.mono ?_
 rintro e w1 ⟨rfl,C1,O1⟩
 have K1:=O1.kp
 have sz1:=O1.size
 clear TK O1
 go_wp2
 go_loopw [3,6] (fun v j wr=>∃ k:Nat,k≤n∧j = .int .u8 k∧RowT wr w.heap.size v (txT xs (i+1) k)∧Cur wr p (.slice a xs.length c) ((ppT xs (i+1) k:Nat):Int)∧ppT xs (i+1) k≤xs.length∧Kp p w wr) (fun _ j _=>n - (intOf j).toNat)
 case atStart=>exact ⟨0,Nat.zero_le _,rfl,World.ownsRow_nil _ _ _ _,C1,by show i+1≤_;omega,K1⟩
 case round =>
  obtain ⟨k,hk,rfl,hR,hC,hpp,hK⟩:=hrel
  clear C1 K1
  by_cases hlt:k < n
  ·have t0 : (k : Int) < (n : Int) := by omega
   have hrk:=hr.of_block' (fun h=>hK.block g (hr.lt h) (hgp h))
   have SH:=hide (short_any wr p g a c xs (ppT xs (i+1) k) hC hrk hb hgp hc0 hc hn hpp)
   have LE:=hide (ppT_le xs (i+1) (k+1) n (by omega))
   have ST:=hide (txT_step xs (i+1) k)
   have LN:=hide (txT_len xs (i+1) k)
   have HR:=hide hR
   have HK:=hide hK
   clear hrk hC hR hK
   go_wp2_with fail
   refine SH.out.mono ?_
   rintro e w2 ⟨⟨h2,rfl,C2⟩ | ⟨h2,t',v',rfl⟩,K2⟩
   rotate_left
   ·have H : Hid (¬ (i < xs.length ∧ ppT xs (i + 1) n ≤ xs.length)) := fun h => by
     have:=LE.out
     have e:ppT xs (i+1) (k+1)=ppT xs (i+1) k+1+(beN xs (ppT xs (i+1) k) 1).toNat:=rfl
     omega
    go_wp2
    exact ⟨rfl,.inr ⟨H.out,t',v',rfl⟩,HK.out.trans K2⟩
   have R2:=HR.out.kp K2 hpl
   have KK:=HK.out.trans K2
   obtain ⟨v',w',hrun,R3,N3⟩:=append_tx w2 23 w.heap.size u3 _ R2 (txB (tkB xs (ppT xs (i+1) k+1) (beN xs (ppT xs (i+1) k) 1).toNat)) (by rw [LN.out];omega) KK.size
   generalize hl:txB (tkB xs (ppT xs (i+1) k+1) (beN xs (ppT xs (i+1) k) 1).toNat)=ll at *
   have h1':(Builtin.append_ #[23,23] 23 #[u3,.slice (some ⟨w2.heap.size,0,none⟩) 1 1]).run Tryz.prog (w2.alloc (.cells #[Value.string ⟨⟨ll⟩⟩] 9)) = .ok v' w':=hrun
   have FR:Hid (RowT w' w.heap.size v' (txT xs (i+1) (k+1))):=by show RowT _ _ _ _;rw [ST.out];exact R3
   have FC:Hid (Cur w' p (.slice a xs.length c) ((ppT xs (i+1) (k+1):Nat):Int)):=C2.belw N3 hpl
   have FK:=hide (KK.below' N3 (Nat.le_refl _))
   have FP:Hid (ppT xs (i+1) (k+1)≤xs.length):=h2
   clear R2 KK R3 N3 C2 K2 SH HR HK ST LE h2 hrun hl
   go_wp2_with (at_builtin;refine Lib.wpList_append_run _ rfl _ _ 23 23 rfl _ _ rfl rfl _ _ h1' ?_)
   go_roundw
   case rel=>exact ⟨k+1,by omega,by go_num,FR.out,FC.out,FP.out,FK.out⟩
   case measure=>simp [intOf];omega
  ·obtain rfl : k = n := by omega
   have HR:=hide hR
   have HC:=hide hC
   have HK:=hide hK
   clear hR hC hK
   go_wp2
   go_ret
   exact ⟨.inl ⟨h1,hpp,⟨_,rfl,HR.out⟩,HC.out⟩,HK.out⟩
end Go.Proofs.YtmmbkkfjiaoeiaaGreat
namespace Go.Proofs.YtmmbkkfjiaoeiaaGreat
open Go Go.RowKit
theorem RowT.onl {w w':World} {base q:Nat} {v:Value} {ls:List (List UInt8)} (h:RowT w base v ls) (O:Only q w w') (hq:q < base):RowT w' base v ls:=by
 refine ⟨h.1,?_⟩
 rcases h.2 with h' | ⟨g,cap,cur,rfl,hbg,hg,hnc,hcm,hcs,ht⟩
 ·exact .inl h'
 ·exact .inr ⟨g,cap,cur,rfl,hbg,by rw [O.block g (by omega)];exact hg,hnc,hcm,hcs,ht⟩
set_option maxRecDepth 100000 in
set_option maxHeartbeats 4000000 in
theorem extRead_any (w:World) (q p g:Nat) (a:Option Addr) (c:Nat) (xs:List Int) (t:TypeId) (hq:RwC w q [.slice none 0 0,.int .i64 0] t) (hqp:q≠p) (hC:Cur w p (.slice a xs.length c) ((0:Nat):Int)) (hpl:p < w.heap.size) (hr:Rd w g a .u8 xs) (hb:Byt xs) (hgp:0 < xs.length→g≠p) (hgq:0 < xs.length→g≠q) (hc0:a=none→c=0) (hc:xs.length≤c) (hn:xs.length≤1048576) :
  Calls Tryz.prog 127 #[.pointer (some ⟨q,0,none⟩),.pointer (some ⟨p,0,none⟩)] w fun e w'=>((0 < xs.length∧ppT xs 1 (xs.getD 0 0).toNat+1≤xs.length∧e = .returned (.tuple #[])∧∃ v,RwC w' q [v,.int .i64 (beN xs (ppT xs 1 (xs.getD 0 0).toNat) 1)] t∧RowT w' w.heap.size v (txT xs 1 (xs.getD 0 0).toNat))∨(¬ (0 < xs.length∧ppT xs 1 (xs.getD 0 0).toNat+1≤xs.length)∧Pan e))∧Kq p q w w':=by
 have hql:=hq.lt
 have SH:=hide (shorts_any w p g a c xs 0 hC hpl hr hb hgp hc0 hc hn (Nat.zero_le _))
 clear hC
 obtain ⟨P,hP⟩:∃ P,P=ppT xs (0+1) (xs.getD 0 0).toNat:=⟨_,rfl⟩
 have hP1:ppT xs 1 (xs.getD 0 0).toNat=P:=hP.symm
 rw [← hP] at SH
 rw [hP1]
 clear hP hP1
 obtain ⟨TX,hT⟩:∃ T,T=txT xs (0+1) (xs.getD 0 0).toNat:=⟨_,rfl⟩
 have hT1:txT xs 1 (xs.getD 0 0).toNat=TX:=hT.symm
 rw [← hT] at SH
 rw [hT1]
 clear hT hT1
 go_enter Tryz.func127,Tryz.ntmps127
 go_wp2_with fail
 refine SH.out.mono ?_
 rintro e v1 ⟨⟨h1,h2,⟨rv,rfl,R1⟩,C1⟩ | ⟨h1,t',v',rfl⟩,K1⟩
 rotate_left
 ·have H : Hid (¬ (0 < xs.length ∧ P + 1 ≤ xs.length)) := fun h => h1 ⟨h.1, by omega⟩
  go_wp2
  exact ⟨rfl,.inr ⟨H.out,t',v',rfl⟩,K1.tch.mono (by simp)⟩
 clear SH
 have Q1:=hq.kp K1 hqp
 have c0:v1.cell? ⟨q,0,none⟩=some (.slice none 0 0):=Q1.cell 0
 have f0:=Q1.free 0
 have O:=Only.setCell v1 q 0 rv
 have Q2:RwC (v1.setCell ⟨q,0,none⟩ rv) q [rv,.int .i64 0] t:=Q1.set 0 _
 have T2:Tch [p,q] w (v1.setCell ⟨q,0,none⟩ rv):=(K1.tch.trans (Tch.of_only O)).mono (by simp)
 have C2:=C1.only' O (by omega)
 have R2:=R1.onl O hql
 have hr2:=(hr.of_block' (fun h=>K1.block g (hr.lt h) (hgp h))).of_block' (fun h=>O.block g (hgq h))
 obtain ⟨ra,rl,rc,hrv⟩:∃ ra rl rc,rv = .slice ra rl rc:=by
  rcases R1.2 with ⟨h',_⟩ | ⟨g',cap,cur,h',_⟩
  ·exact ⟨_,_,_,h'⟩
  ·exact ⟨_,_,_,h'⟩
 subst hrv
 clear hq Q1 K1 O C1 R1 hr
 go_upto_region 1 with fail
 generalize v1.setCell ⟨q,0,none⟩ (.slice ra rl rc)=w2 at *
 clear c0 f0
 by_cases h3:P+1≤xs.length
 rotate_left
 ·have NB := hide (number_bad w2 p g a c xs P 1 C2 hr2 hgp (by omega) (by omega) (by omega) (by omega))
  have H:Hid (¬ (0 < xs.length∧P+1≤xs.length)):=fun h=>h3 h.2
  go_wp2_with fail
  refine NB.out.mono ?_
  rintro e v2 ⟨⟨t',v',rfl⟩,O2⟩
  go_wp2
  exact ⟨rfl,.inr ⟨H.out,t',v',rfl⟩,(T2.trans (Tch.of_only O2)).mono (by simp)⟩
 have NM:=hide (numberG_any w2 p g a c xs P 1 C2 hr2 hb hgp h3 (by omega) (by omega))
 rw [nmV_small hb P 1 (by decide)] at NM
 go_wp2_with fail
 refine NM.out.mono ?_
 rintro e v2 ⟨rfl,-,O1⟩
 have K:=O1.kp
 have Q3:=Q2.kp K hqp
 have c1:v2.cell? ⟨q,1,none⟩=some (.int .i64 0):=Q3.cell 1
 have f1:=Q3.free 1
 have O:=Only.setCell v2 q 1 (.int .i64 (beN xs P 1))
 have FQ:Hid (RwC (v2.setCell ⟨q,1,none⟩ (.int .i64 (beN xs P 1))) q [.slice ra rl rc,.int .i64 (beN xs P 1)] t):=Q3.set 1 _
 have FT:Hid (Kq p q w (v2.setCell ⟨q,1,none⟩ (.int .i64 (beN xs P 1)))):=((T2.trans K.tch).trans (Tch.of_only O)).mono (by simp)
 have FR:=hide ((R2.kp K hpl).onl O hql)
 clear NM O1 K Q3 O R2 T2 Q2 C2 hr2
 go_wp2
 go_end0
 exact ⟨.inl ⟨h1,h3,rfl,_,FQ.out,FR.out⟩,FT.out⟩
end Go.Proofs.YtmmbkkfjiaoeiaaGreat
namespace Go.Proofs.YtmmbkkfjiaoeiaaGreat
open Go Go.RowKit
def hpA (xs:List Int):Nat:=65+1+(beN xs 65 1).toNat
def hpB (xs:List Int):Nat:=ppT xs (hpA xs+1) (xs.getD (hpA xs) 0).toNat
def hpN (xs:List Int):Nat:=(beN xs (hpB xs) 2).toNat
def hpC (xs:List Int):Nat:=hpB xs+2+hpN xs
def HeG (xs:List Int):Prop:=hpA xs < xs.length∧hpC xs≤xs.length∧(0 < hpN xs→hpC xs+37≤xs.length)
theorem RowT.base' {w:World} {b b':Nat} {v:Value} {ls:List (List UInt8)} (h:RowT w b v ls) (l:b'≤b):RowT w b' v ls:=by
 refine ⟨h.1,?_⟩
 rcases h.2 with h' | ⟨g,cap,cur,rfl,hbg,hg,hnc,hcm,hcs,ht⟩
 ·exact .inl h'
 ·exact .inr ⟨g,cap,cur,rfl,by omega,hg,hnc,hcm,hcs,ht⟩
set_option maxRecDepth 100000 in
set_option maxHeartbeats 8000000 in
theorem helRead_any (w:World) (q p g:Nat) (a:Option Addr) (c:Nat) (xs:List Int) (t:TypeId) (hq:RwC w q [.int .i64 0,.slice none 0 0,.slice none 0 0,.string ⟨#[]⟩,.slice none 0 0,.slice none 0 0,.int .i64 0,.int .i64 0,.slice none 0 0] t) (hqp:q≠p) (hC:Cur w p (.slice a xs.length c) ((0:Nat):Int)) (hpl:p < w.heap.size) (hr:Rd w g a .u8 xs) (hb:Byt xs) (hgp:0 < xs.length→g≠p) (hgq:0 < xs.length→g≠q) (hc0:a=none→c=0) (hc:xs.length≤c) (hn:xs.length≤1048576) :
  Calls Tryz.prog 89 #[.pointer (some ⟨q,0,none⟩),.pointer (some ⟨p,0,none⟩)] w fun e w'=>((HeG xs∧e = .returned (.tuple #[])∧∃ G1 G2 rv G5 x6 x7 x8,RwC w' q [.int .i64 (beN xs 0 1),.slice (some ⟨G1,0,none⟩) 32 32,.slice (some ⟨G2,0,none⟩) 32 32,.string ⟨⟨txB (tkB xs 66 (beN xs 65 1).toNat)⟩⟩,rv,.slice (some ⟨G5,0,none⟩) (hpN xs) (hpN xs),.int .i64 x6,.int .i64 x7,x8] t∧Blk w' G1 .u8 (tkB xs 1 32)∧w.heap.size≤G1∧Blk w' G2 .u8 (tkB xs 33 32)∧w.heap.size≤G2∧G1 < G2∧(∃ F1,G2 < F1∧F1≤G5∧RowT w' F1 rv (txT xs (hpA xs+1) (xs.getD (hpA xs) 0).toNat)∧∀ k,rv.ownBlock=some k→k < G5)∧Blk w' G5 .u8 (tkB xs (hpB xs+2) (hpN xs))∧w.heap.size≤G5∧((hpN xs=0∧x6=0∧x7=0∧x8 = .slice none 0 0)∨(0 < hpN xs∧x6=beN xs (hpC xs) 4∧x7=beN xs (hpC xs+4) 1∧∃ G8,x8 = .slice (some ⟨G8,0,none⟩) 32 32∧Blk w' G8 .u8 (tkB xs (hpC xs+5) 32)∧G5 < G8)))∨(¬ HeG xs∧Pan e))∧Kq p q w w':=by
 have FR:=hide (firstRead_any w q p g a c xs t [.string ⟨#[]⟩,.slice none 0 0,.slice none 0 0,.int .i64 0,.int .i64 0,.slice none 0 0] hq hqp hC hpl hr hb hgp hgq hc0 hc hn)
 have hql:=hq.lt
 have EA:Hid (hpA xs=65+1+(beN xs 65 1).toNat):=rfl
 have EB:Hid (hpB xs=ppT xs (hpA xs+1) (xs.getD (hpA xs) 0).toNat):=rfl
 have EN:Hid (hpN xs=(beN xs (hpB xs) 2).toNat):=rfl
 have EC:Hid (hpC xs=hpB xs+2+hpN xs):=rfl
 have lAB:hpA xs+1≤hpB xs:=by rw [EB.out];exact ppT_le xs (hpA xs+1) 0 _ (Nat.zero_le _)
 have HG:Hid (HeG xs↔hpA xs < xs.length∧hpC xs≤xs.length∧(0 < hpN xs→hpC xs+37≤xs.length)):=Iff.rfl
 clear hq hC
 go_enter Tryz.func89,Tryz.ntmps89
 go_wp2_with fail
 refine FR.out.mono ?_
 rintro e w1 ⟨⟨h1,rfl,G1,G2,Q,C,B1,l1,B2,l2,o12⟩ | ⟨h1,t',v',rfl⟩,T⟩
 rotate_left
 ·have H : Hid (¬ HeG xs) := fun h => by have := HG.out.1 h; have := EA.out; have := EB.out; have := EN.out; have := EC.out; omega
  go_wp2
  exact ⟨rfl,.inr ⟨H.out,t',v',rfl⟩,T⟩
 have T:Tch [p,q] w w1:=T
 have hr:=hr.tchK T (fun h0=>by have:=hgp h0;have:=hgq h0;simp;omega)
 clear FR
 have NM:=hide (short_any w1 p g a c xs 65 C hr hb hgp hc0 hc hn (by omega))
 go_wp2_with fail
 refine NM.out.mono ?_
 rintro e v1 ⟨⟨hs,rfl,C'⟩ | ⟨h1,t',v',rfl⟩,K⟩
 rotate_left
 ·have H : Hid (¬ HeG xs) := fun h => by have := HG.out.1 h; have := EA.out; have := EB.out; have := EN.out; have := EC.out; omega
  go_wp2
  exact ⟨rfl,.inr ⟨H.out,t',v',rfl⟩,(T.trans K.tch).mono (by simp)⟩
 have Q1:RwC v1 q [.int .i64 (beN xs 0 1),.slice (some ⟨G1,0,none⟩) 32 32,.slice (some ⟨G2,0,none⟩) 32 32,.string ⟨#[]⟩,.slice none 0 0,.slice none 0 0,.int .i64 0,.int .i64 0,.slice none 0 0] t:=Q.kp K hqp
 have cc:v1.cell? ⟨q,3,none⟩=some (.string ⟨#[]⟩):=Q1.cell 3
 have ff:=Q1.free 3
 have O:=Only.setCell v1 q 3 (.string ⟨⟨txB (tkB xs 66 (beN xs 65 1).toNat)⟩⟩)
 have Q2:RwC (v1.setCell ⟨q,3,none⟩ (.string ⟨⟨txB (tkB xs 66 (beN xs 65 1).toNat)⟩⟩)) q [.int .i64 (beN xs 0 1),.slice (some ⟨G1,0,none⟩) 32 32,.slice (some ⟨G2,0,none⟩) 32 32,.string ⟨⟨txB (tkB xs 66 (beN xs 65 1).toNat)⟩⟩,.slice none 0 0,.slice none 0 0,.int .i64 0,.int .i64 0,.slice none 0 0] t:=Q1.set 3 _
 have T2:Tch [p,q] w (v1.setCell ⟨q,3,none⟩ (.string ⟨⟨txB (tkB xs 66 (beN xs 65 1).toNat)⟩⟩)):=((T.trans K.tch).trans (Tch.of_only O)).mono (by simp)
 have C2:=C'.only' O (by omega)
 have R2:=(hr.of_block' (fun h=>K.block g (hr.lt h) (hgp h))).of_block' (fun h=>O.block g (hgq h))
 replace B1:=(B1.kp K (by omega)).of_block (O.block _ (by omega))
 replace B2:=(B2.kp K (by omega)).of_block (O.block _ (by omega))
 have sT:=T.size
 clear NM Q Q1 T K O C C' hr
 go_upto_region 2 with fail
 generalize v1.setCell ⟨q,3,none⟩ (.string ⟨⟨txB (tkB xs 66 (beN xs 65 1).toNat)⟩⟩)=w2 at *
 have Q:=Q2
 have T:=T2
 have C:=C2
 have hr:=R2
 clear Q2 T2 C2 R2 cc ff
 rw [← EA.out] at C hs
 have NM:=hide (shorts_any w2 p g a c xs (hpA xs) C (by have:=T.size;omega) hr hb hgp hc0 hc hn (by omega))
 go_wp2_with fail
 refine NM.out.mono ?_
 rintro e v2 ⟨⟨ht1,ht2,⟨rv,rfl,RT⟩,C'⟩ | ⟨h2,t',v',rfl⟩,K⟩
 rotate_left
 ·have H : Hid (¬ HeG xs) := fun h => by have := HG.out.1 h; have := EA.out; have := EB.out; have := EN.out; have := EC.out; omega
  go_wp2
  exact ⟨rfl,.inr ⟨H.out,t',v',rfl⟩,(T.trans K.tch).mono (by simp)⟩
 obtain ⟨ra,rl,rc,hrv⟩:∃ ra rl rc,rv = .slice ra rl rc:=by
  rcases RT.2 with ⟨h',_⟩ | ⟨g',cap,cur,h',_⟩
  ·exact ⟨_,_,_,h'⟩
  ·exact ⟨_,_,_,h'⟩
 subst hrv
 obtain ⟨F1,g2F,wF,F1v,RT⟩:∃ F1,G2 < F1∧w.heap.size≤F1∧F1≤v2.heap.size∧RowT v2 F1 (.slice ra rl rc) (txT xs (hpA xs+1) (xs.getD (hpA xs) 0).toNat):=⟨w2.heap.size,B2.lt,T.size,K.size,RT⟩
 have Q1:RwC v2 q [.int .i64 (beN xs 0 1),.slice (some ⟨G1,0,none⟩) 32 32,.slice (some ⟨G2,0,none⟩) 32 32,.string ⟨⟨txB (tkB xs 66 (beN xs 65 1).toNat)⟩⟩,.slice none 0 0,.slice none 0 0,.int .i64 0,.int .i64 0,.slice none 0 0] t:=Q.kp K hqp
 have cc:v2.cell? ⟨q,4,none⟩=some (.slice none 0 0):=Q1.cell 4
 have ff:=Q1.free 4
 have O:=Only.setCell v2 q 4 (.slice ra rl rc)
 have Q2:RwC (v2.setCell ⟨q,4,none⟩ (.slice ra rl rc)) q [.int .i64 (beN xs 0 1),.slice (some ⟨G1,0,none⟩) 32 32,.slice (some ⟨G2,0,none⟩) 32 32,.string ⟨⟨txB (tkB xs 66 (beN xs 65 1).toNat)⟩⟩,.slice ra rl rc,.slice none 0 0,.int .i64 0,.int .i64 0,.slice none 0 0] t:=Q1.set 4 _
 have T2:Tch [p,q] w (v2.setCell ⟨q,4,none⟩ (.slice ra rl rc)):=((T.trans K.tch).trans (Tch.of_only O)).mono (by simp)
 have C2:=C'.only' O (by omega)
 have R2:=(hr.of_block' (fun h=>K.block g (hr.lt h) (hgp h))).of_block' (fun h=>O.block g (hgq h))
 replace B1:=(B1.kp K (by omega)).of_block (O.block _ (by omega))
 replace B2:=(B2.kp K (by omega)).of_block (O.block _ (by omega))
 replace RT:=RT.onl O (by omega)
 have FV:F1≤(v2.setCell ⟨q,4,none⟩ (.slice ra rl rc)).heap.size:=by rw [O.size];exact F1v
 clear F1v
 have sT:=T.size
 clear NM Q Q1 T K O C C' hr
 go_upto_region 3 with fail
 generalize v2.setCell ⟨q,4,none⟩ (.slice ra rl rc)=w3 at *
 have Q:=Q2
 have T:=T2
 have C:=C2
 have hr:=R2
 clear Q2 T2 C2 R2 cc ff
 rw [← EB.out] at C ht2
 have NM:=hide (long_any w3 p g a c xs (hpB xs) C hr hb hgp hc0 hc hn (by omega))
 go_wp2_with fail
 refine NM.out.mono ?_
 rintro e v3 ⟨⟨hl1,⟨G5,rfl,B5,l5⟩,C'⟩ | ⟨h3,t',v',rfl⟩,K⟩
 rotate_left
 ·have H : Hid (¬ HeG xs) := fun h => by have := HG.out.1 h; have := EA.out; have := EB.out; have := EN.out; have := EC.out; omega
  go_wp2
  exact ⟨rfl,.inr ⟨H.out,t',v',rfl⟩,(T.trans K.tch).mono (by simp)⟩
 have l5':w.heap.size≤G5:=Nat.le_trans T.size l5
 have F5:F1≤G5:=Nat.le_trans FV l5
 have rvG:Hid (∀ k,Value.ownBlock (.slice ra rl rc)=some k→k < G5):=fun k hk=>Nat.lt_of_lt_of_le (World.ownsRow.lt RT k hk).2 l5
 clear l5 FV
 have Q1:RwC v3 q [.int .i64 (beN xs 0 1),.slice (some ⟨G1,0,none⟩) 32 32,.slice (some ⟨G2,0,none⟩) 32 32,.string ⟨⟨txB (tkB xs 66 (beN xs 65 1).toNat)⟩⟩,.slice ra rl rc,.slice none 0 0,.int .i64 0,.int .i64 0,.slice none 0 0] t:=Q.kp K hqp
 have cc:v3.cell? ⟨q,5,none⟩=some (.slice none 0 0):=Q1.cell 5
 have ff:=Q1.free 5
 have O:=Only.setCell v3 q 5 (.slice (some ⟨G5,0,none⟩) (beN xs (hpB xs) 2).toNat (beN xs (hpB xs) 2).toNat)
 have Q2:RwC (v3.setCell ⟨q,5,none⟩ (.slice (some ⟨G5,0,none⟩) (beN xs (hpB xs) 2).toNat (beN xs (hpB xs) 2).toNat)) q [.int .i64 (beN xs 0 1),.slice (some ⟨G1,0,none⟩) 32 32,.slice (some ⟨G2,0,none⟩) 32 32,.string ⟨⟨txB (tkB xs 66 (beN xs 65 1).toNat)⟩⟩,.slice ra rl rc,.slice (some ⟨G5,0,none⟩) (beN xs (hpB xs) 2).toNat (beN xs (hpB xs) 2).toNat,.int .i64 0,.int .i64 0,.slice none 0 0] t:=Q1.set 5 _
 have T2:Tch [p,q] w (v3.setCell ⟨q,5,none⟩ (.slice (some ⟨G5,0,none⟩) (beN xs (hpB xs) 2).toNat (beN xs (hpB xs) 2).toNat)):=((T.trans K.tch).trans (Tch.of_only O)).mono (by simp)
 have C2:=C'.only' O (by omega)
 have R2:=(hr.of_block' (fun h=>K.block g (hr.lt h) (hgp h))).of_block' (fun h=>O.block g (hgq h))
 replace B1:=(B1.kp K (by omega)).of_block (O.block _ (by omega))
 replace B2:=(B2.kp K (by omega)).of_block (O.block _ (by omega))
 replace RT:=(RT.kp K (by omega)).onl O (by omega)
 replace B5:=B5.of_block (O.block _ (by omega))
 have sT:=T.size
 clear NM Q Q1 T K O C C' hr
 go_upto_region 4 with fail
 generalize v3.setCell ⟨q,5,none⟩ (.slice (some ⟨G5,0,none⟩) (beN xs (hpB xs) 2).toNat (beN xs (hpB xs) 2).toNat)=w4 at *
 have Q:=Q2
 have T:=T2
 have C:=C2
 have hr:=R2
 clear Q2 T2 C2 R2 cc ff
 rw [← EN.out] at Q B5 C hl1
 try rw [← EN.out]
 rw [← EC.out] at C hl1
 have c5:w4.cell? ⟨q,5,none⟩=some (.slice (some ⟨G5,0,none⟩) (hpN xs) (hpN xs)):=Q.cell 5
 by_cases hz:hpN xs=0
 ·have z0 : decide ((0 : Int) < (hpN xs : Int)) = false := decide_eq_false (by omega)
  have FIN:Hid (HeG xs):=HG.out.2 ⟨by omega,by omega,fun h=>by omega⟩
  go_wp2
  go_end0
  exact ⟨.inl ⟨FIN.out,rfl,G1,G2,.slice ra rl rc,G5,0,0,.slice none 0 0,Q,B1,l1,B2,l2,o12,⟨F1,g2F,F5,RT,rvG.out⟩,B5,l5',.inl ⟨hz,rfl,rfl,rfl⟩⟩,T⟩
 have hpos:0 < hpN xs:=by omega
 have z0:decide ((0:Int) < (hpN xs:Int))=true:=decide_eq_true (by omega)
 go_upto_region 5 with fail
 clear c5 z0
 by_cases h4:hpC xs+4≤xs.length
 rotate_left
 ·have NB := hide (number_bad w4 p g a c xs (hpC xs) 4 C hr hgp (by omega) (by omega) (by omega) (by omega))
  have H:Hid (¬ HeG xs):=fun h=>by have:=(HG.out.1 h).2.2 hpos;have:=EC.out;omega
  go_wp2_with fail
  refine NB.out.mono ?_
  rintro e v4 ⟨⟨t',v',rfl⟩,O2⟩
  go_wp2
  exact ⟨rfl,.inr ⟨H.out,t',v',rfl⟩,(T.trans (Tch.of_only O2)).mono (by simp)⟩
 have NM:=hide (numberG_any w4 p g a c xs (hpC xs) 4 C hr hb hgp (by omega) (by omega) (by omega))
 rw [nmV_small hb (hpC xs) 4 (by decide)] at NM
 go_wp2_with fail
 refine NM.out.mono ?_
 rintro e v4 ⟨rfl,C',O1⟩
 have K:=O1.kp
 clear O1
 have Q1:RwC v4 q [.int .i64 (beN xs 0 1),.slice (some ⟨G1,0,none⟩) 32 32,.slice (some ⟨G2,0,none⟩) 32 32,.string ⟨⟨txB (tkB xs 66 (beN xs 65 1).toNat)⟩⟩,.slice ra rl rc,.slice (some ⟨G5,0,none⟩) (hpN xs) (hpN xs),.int .i64 0,.int .i64 0,.slice none 0 0] t:=Q.kp K hqp
 have cc:v4.cell? ⟨q,6,none⟩=some (.int .i64 0):=Q1.cell 6
 have ff:=Q1.free 6
 have O:=Only.setCell v4 q 6 (.int .i64 (beN xs (hpC xs) 4))
 have Q2:RwC (v4.setCell ⟨q,6,none⟩ (.int .i64 (beN xs (hpC xs) 4))) q [.int .i64 (beN xs 0 1),.slice (some ⟨G1,0,none⟩) 32 32,.slice (some ⟨G2,0,none⟩) 32 32,.string ⟨⟨txB (tkB xs 66 (beN xs 65 1).toNat)⟩⟩,.slice ra rl rc,.slice (some ⟨G5,0,none⟩) (hpN xs) (hpN xs),.int .i64 (beN xs (hpC xs) 4),.int .i64 0,.slice none 0 0] t:=Q1.set 6 _
 have T2:Tch [p,q] w (v4.setCell ⟨q,6,none⟩ (.int .i64 (beN xs (hpC xs) 4))):=((T.trans K.tch).trans (Tch.of_only O)).mono (by simp)
 have C2:=C'.only' O (by omega)
 have R2:=(hr.of_block' (fun h=>K.block g (hr.lt h) (hgp h))).of_block' (fun h=>O.block g (hgq h))
 replace B1:=(B1.kp K (by omega)).of_block (O.block _ (by omega))
 replace B2:=(B2.kp K (by omega)).of_block (O.block _ (by omega))
 replace RT:=(RT.kp K (by omega)).onl O (by omega)
 replace B5:=(B5.kp K (by omega)).of_block (O.block _ (by omega))
 have sT:=T.size
 clear NM Q Q1 T K O C C' hr
 go_upto_region 6 with fail
 generalize v4.setCell ⟨q,6,none⟩ (.int .i64 (beN xs (hpC xs) 4))=w5 at *
 have Q:=Q2
 have T:=T2
 have C:=C2
 have hr:=R2
 clear Q2 T2 C2 R2 cc ff
 by_cases h5:hpC xs+4+1≤xs.length
 rotate_left
 ·have NB := hide (number_bad w5 p g a c xs (hpC xs + 4) 1 C hr hgp (by omega) (by omega) (by omega) (by omega))
  have H:Hid (¬ HeG xs):=fun h=>by have:=(HG.out.1 h).2.2 hpos;have:=EC.out;omega
  go_wp2_with fail
  refine NB.out.mono ?_
  rintro e v5 ⟨⟨t',v',rfl⟩,O2⟩
  go_wp2
  exact ⟨rfl,.inr ⟨H.out,t',v',rfl⟩,(T.trans (Tch.of_only O2)).mono (by simp)⟩
 have NM:=hide (numberG_any w5 p g a c xs (hpC xs+4) 1 C hr hb hgp (by omega) (by omega) (by omega))
 rw [nmV_small hb (hpC xs+4) 1 (by decide)] at NM
 go_wp2_with fail
 refine NM.out.mono ?_
 rintro e v5 ⟨rfl,C',O1⟩
 have K:=O1.kp
 clear O1
 have Q1:RwC v5 q [.int .i64 (beN xs 0 1),.slice (some ⟨G1,0,none⟩) 32 32,.slice (some ⟨G2,0,none⟩) 32 32,.string ⟨⟨txB (tkB xs 66 (beN xs 65 1).toNat)⟩⟩,.slice ra rl rc,.slice (some ⟨G5,0,none⟩) (hpN xs) (hpN xs),.int .i64 (beN xs (hpC xs) 4),.int .i64 0,.slice none 0 0] t:=Q.kp K hqp
 have cc:v5.cell? ⟨q,7,none⟩=some (.int .i64 0):=Q1.cell 7
 have ff:=Q1.free 7
 have O:=Only.setCell v5 q 7 (.int .i64 (beN xs (hpC xs+4) 1))
 have Q2:RwC (v5.setCell ⟨q,7,none⟩ (.int .i64 (beN xs (hpC xs+4) 1))) q [.int .i64 (beN xs 0 1),.slice (some ⟨G1,0,none⟩) 32 32,.slice (some ⟨G2,0,none⟩) 32 32,.string ⟨⟨txB (tkB xs 66 (beN xs 65 1).toNat)⟩⟩,.slice ra rl rc,.slice (some ⟨G5,0,none⟩) (hpN xs) (hpN xs),.int .i64 (beN xs (hpC xs) 4),.int .i64 (beN xs (hpC xs+4) 1),.slice none 0 0] t:=Q1.set 7 _
 have T2:Tch [p,q] w (v5.setCell ⟨q,7,none⟩ (.int .i64 (beN xs (hpC xs+4) 1))):=((T.trans K.tch).trans (Tch.of_only O)).mono (by simp)
 have C2:=C'.only' O (by omega)
 have R2:=(hr.of_block' (fun h=>K.block g (hr.lt h) (hgp h))).of_block' (fun h=>O.block g (hgq h))
 replace B1:=(B1.kp K (by omega)).of_block (O.block _ (by omega))
 replace B2:=(B2.kp K (by omega)).of_block (O.block _ (by omega))
 replace RT:=(RT.kp K (by omega)).onl O (by omega)
 replace B5:=(B5.kp K (by omega)).of_block (O.block _ (by omega))
 have sT:=T.size
 clear NM Q Q1 T K O C C' hr
 go_upto_region 7 with fail
 generalize v5.setCell ⟨q,7,none⟩ (.int .i64 (beN xs (hpC xs+4) 1))=w6 at *
 have Q:=Q2
 have T:=T2
 have C:=C2
 have hr:=R2
 clear Q2 T2 C2 R2 cc ff
 have C:Cur w6 p (.slice a xs.length c) ((hpC xs+5:Nat):Int):=C
 have l8:=B5.lt
 by_cases h6:hpC xs+5+32≤xs.length
 rotate_left
 ·have NB := hide (takeList_bad w6 p a xs.length c (hpC xs + 5) 32 C (by omega) hn (by omega))
  have H:Hid (¬ HeG xs):=fun h=>by have:=(HG.out.1 h).2.2 hpos;have:=EC.out;omega
  go_wp2_with fail
  refine NB.out.mono ?_
  rintro e v6 ⟨⟨t',v',rfl⟩,O2⟩
  go_wp2
  exact ⟨rfl,.inr ⟨H.out,t',v',rfl⟩,(T.trans (Tch.of_only O2)).mono (by simp)⟩
 have NM:=hide (takeList_any w6 p g a c xs (hpC xs+5) 32 C hr hc0 hc hn (by omega) (by omega))
 rw [tkB_take xs (hpC xs+5) 32 (by omega)] at NM
 go_wp2_with fail
 refine NM.out.mono ?_
 rintro e v6 ⟨rfl,B8,C',K⟩
 have Q1:RwC v6 q [.int .i64 (beN xs 0 1),.slice (some ⟨G1,0,none⟩) 32 32,.slice (some ⟨G2,0,none⟩) 32 32,.string ⟨⟨txB (tkB xs 66 (beN xs 65 1).toNat)⟩⟩,.slice ra rl rc,.slice (some ⟨G5,0,none⟩) (hpN xs) (hpN xs),.int .i64 (beN xs (hpC xs) 4),.int .i64 (beN xs (hpC xs+4) 1),.slice none 0 0] t:=Q.kp K hqp
 have cc:v6.cell? ⟨q,8,none⟩=some (.slice none 0 0):=Q1.cell 8
 have ff:=Q1.free 8
 have O:=Only.setCell v6 q 8 (.slice (some ⟨w6.heap.size,0,none⟩) 32 32)
 have Q2:RwC (v6.setCell ⟨q,8,none⟩ (.slice (some ⟨w6.heap.size,0,none⟩) 32 32)) q [.int .i64 (beN xs 0 1),.slice (some ⟨G1,0,none⟩) 32 32,.slice (some ⟨G2,0,none⟩) 32 32,.string ⟨⟨txB (tkB xs 66 (beN xs 65 1).toNat)⟩⟩,.slice ra rl rc,.slice (some ⟨G5,0,none⟩) (hpN xs) (hpN xs),.int .i64 (beN xs (hpC xs) 4),.int .i64 (beN xs (hpC xs+4) 1),.slice (some ⟨w6.heap.size,0,none⟩) 32 32] t:=Q1.set 8 _
 have T2:Tch [p,q] w (v6.setCell ⟨q,8,none⟩ (.slice (some ⟨w6.heap.size,0,none⟩) 32 32)):=((T.trans K.tch).trans (Tch.of_only O)).mono (by simp)
 have C2:=C'.only' O (by omega)
 have R2:=(hr.of_block' (fun h=>K.block g (hr.lt h) (hgp h))).of_block' (fun h=>O.block g (hgq h))
 replace B1:=(B1.kp K (by omega)).of_block (O.block _ (by omega))
 replace B2:=(B2.kp K (by omega)).of_block (O.block _ (by omega))
 replace RT:=(RT.kp K (by omega)).onl O (by omega)
 replace B5:=(B5.kp K (by omega)).of_block (O.block _ (by omega))
 replace B8:=B8.of_block (O.block _ (by omega))
 have sT:=T.size
 clear NM Q Q1 T K O C C' hr
 have FIN:Hid (HeG xs):=HG.out.2 ⟨by omega,by omega,fun h=>by omega⟩
 go_wp2
 go_end0
 exact ⟨.inl ⟨FIN.out,rfl,G1,G2,.slice ra rl rc,G5,_,_,_,Q2,B1,l1,B2,l2,o12,⟨F1,g2F,F5,RT,rvG.out⟩,B5,l5',.inr ⟨hpos,rfl,rfl,_,rfl,B8,l8⟩⟩,T2⟩
end Go.Proofs.YtmmbkkfjiaoeiaaGreat
namespace Go.Proofs.YtmmbkkfjiaoeiaaGreat
open Go Go.RowKit
def ppL (xs:List Int) (i:Nat):Nat→Nat
 | 0=>i
 | k+1=>ppL xs i k+2+(beN xs (ppL xs i k) 2).toNat
def clT (xs:List Int) (i k:Nat):List (List Int):=(List.range k).map fun j=>tkB xs (ppL xs i j+2) (beN xs (ppL xs i j) 2).toNat
theorem clT_len (xs:List Int) (i k:Nat):(clT xs i k).length=k:=by simp [clT]
theorem clT_step (xs:List Int) (i k:Nat):clT xs i (k+1)=clT xs i k ++ [tkB xs (ppL xs i k+2) (beN xs (ppL xs i k) 2).toNat]:=by simp [clT,List.range_succ]
theorem ppL_le (xs:List Int) (i k n:Nat) (h:k≤n):ppL xs i k≤ppL xs i n:=by
  induction n with
  | zero =>
    obtain rfl:k=0:=by omega
    exact Nat.le_refl _
  | succ n ih =>
    by_cases e:k=n+1
    · subst e
      exact Nat.le_refl _
    · have := ih (by omega)
      have e:ppL xs i (n+1)=ppL xs i n+2+(beN xs (ppL xs i n) 2).toNat:=rfl
      omega
theorem BRow.kp {w w':World} {B p:Nat} {v:Value} {its:List (List Int)} {bs:List Plc} (h:BRow w B v its bs) (n:Kp p w w') (hp:p < B):BRow w' B v its bs:=h.of fun k hk hB=>n.block k hk (by omega)
theorem BRow.onl {w w':World} {B q:Nat} {v:Value} {its:List (List Int)} {bs:List Plc} (h:BRow w B v its bs) (O:Only q w w') (hq:q < B):BRow w' B v its bs:=h.of fun k hk hB=>O.block k (by omega)
theorem BRow.lim {w:World} {B:Nat} {v:Value} {its:List (List Int)} {bs:List Plc} (h:BRow w B v its bs):∀ k,v.ownBlock=some k→k < w.heap.size:=fun k hk=>(h.o.lt k hk).2
set_option maxRecDepth 100000 in
set_option maxHeartbeats 4000000 in
theorem certsRead_any (w : World) (q p g : Nat) (a : Option Addr) (c : Nat) (xs : List Int) (t : TypeId) (hq : RwC w q [.slice none 0 0] t) (hqp : q ≠ p) (hC : Cur w p (.slice a xs.length c) ((0 : Nat) : Int)) (hpl : p < w.heap.size) (hr : Rd w g a .u8 xs) (hb : Byt xs) (hgp : 0 < xs.length → g ≠ p) (hgq : 0 < xs.length → g ≠ q) (hc0 : a = none → c = 0) (hc : xs.length ≤ c) (hn : xs.length ≤ 1048576) :
  Calls Tryz.prog 131 #[.pointer (some ⟨q,0,none⟩),.pointer (some ⟨p,0,none⟩)] w fun e w'=>((0 < xs.length∧ppL xs 1 (xs.getD 0 0).toNat≤xs.length∧e = .returned (.tuple #[])∧∃ v bs,RwC w' q [v] t∧BRow w' w.heap.size v (clT xs 1 (xs.getD 0 0).toNat) bs)∨(¬ (0 < xs.length∧ppL xs 1 (xs.getD 0 0).toNat≤xs.length)∧Pan e))∧Kq p q w w':=by
 have hql:=hq.lt
 by_cases h1:0 < xs.length
 rotate_left
 ·have TB := hide (take_bad w p a xs.length c 0 hC (by omega))
  have H:=hide h1
  clear hC hr h1 hq
  go_enter Tryz.func131,Tryz.ntmps131
  go_wp2_with fail
  refine TB.out.mono ?_
  rintro e v1 ⟨⟨t',v',rfl⟩,O2⟩
  go_wp2
  exact ⟨rfl,.inr ⟨fun h=>H.out h.1,t',v',rfl⟩,(Tch.of_only O2).mono (by simp)⟩
 have TK:=hide (take_ok w p g a c xs 0 hC hr h1 (by omega))
 have bx:=hb 0
 obtain ⟨n,hn1⟩:=Int.eq_ofNat_of_zero_le bx.1
 have e1:(xs.getD 0 0).toNat=n:=by omega
 rw [e1]
 rw [hn1] at TK
 have n256:n < 256:=by omega
 clear hn1 e1 hC bx
 go_enter Tryz.func131,Tryz.ntmps131
 go_wp2_with fail
 refine TK.out.mono ?_
 rintro e w1 ⟨rfl,C1,O1⟩
 have K1:Hid (Tch [p,q] w w1):=(Tch.of_only O1).mono (by simp)
 have Q1:=hide (show RwC w1 q [.slice none 0 0] t from (O1.block q hqp).trans hq)
 have H1:=hide C1
 clear TK O1 hq C1
 go_wp2
 go_loopw [6] (fun j wr=>∃ (k:Nat) (v:Value) (bs:List Plc),k≤n∧j = .int .u8 k∧RwC wr q [v] t∧BRow wr w.heap.size v (clT xs 1 k) bs∧Cur wr p (.slice a xs.length c) ((ppL xs 1 k:Nat):Int)∧ppL xs 1 k≤xs.length∧Tch [p,q] w wr) (fun j _=>n - (intOf j).toNat)
 case atStart=>exact ⟨0,_,[],Nat.zero_le _,rfl,Q1.out,BRow.nil _ _,H1.out,by show 1≤_;omega,K1.out⟩
 case round =>
  obtain ⟨k,v,bs,hk,rfl,hQ,hR,hC,hpp,hK⟩:=hrel
  clear H1 K1 Q1
  by_cases hlt:k < n
  ·have t0 : (k : Int) < (n : Int) := by omega
   have hrk:=hr.tchK hK (fun h0=>by have:=hgp h0;have:=hgq h0;simp;omega)
   obtain ⟨x,hx⟩:∃ x,Hid (tkB xs (ppL xs 1 k+2) (beN xs (ppL xs 1 k) 2).toNat=x):=⟨_,rfl⟩
   have xl:x.length=(beN xs (ppL xs 1 k) 2).toNat:=by rw [← hx.out,tkB_len]
   have xm:(beN xs (ppL xs 1 k) 2).toNat < 65536:=by have:=beN_rng hb (ppL xs 1 k) 2;omega
   have LE:=ppL_le xs 1 (k+1) n (by omega)
   have e2:ppL xs 1 (k+1)=ppL xs 1 k+2+(beN xs (ppL xs 1 k) 2).toNat:=rfl
   have LO:Hid (Calls Tryz.prog 104 #[.pointer (some ⟨p,0,none⟩)] wr.drew fun e w2=>(∃ G,e = .returned (.slice (some ⟨G,0,none⟩) x.length x.length)∧w2.cell? ⟨q,0,none⟩=some v∧(w2.alloc (.cells #[.slice (some ⟨G,0,none⟩) x.length x.length] 52)).cell? ⟨q,0,none⟩=some v∧∃ v' w',(Builtin.append_ #[24,24] 24 #[v,.slice (some ⟨w2.heap.size,0,none⟩) 1 1]).run Tryz.prog (w2.alloc (.cells #[.slice (some ⟨G,0,none⟩) x.length x.length] 52)) = .ok v' w'∧((∃ a3 n3 c3,v' = .slice a3 n3 c3)∧w'.cell? ⟨q,0,none⟩=some v∧w'.frozen? ⟨q,0,none⟩=false∧∃ bs',Hid (RwC (w'.setCell ⟨q,0,none⟩ v') q [v'] t∧BRow (w'.setCell ⟨q,0,none⟩ v') w.heap.size v' (clT xs 1 (k+1)) bs'∧Cur (w'.setCell ⟨q,0,none⟩ v') p (.slice a xs.length c) ((ppL xs 1 (k+1):Nat):Int)∧ppL xs 1 (k+1)≤xs.length∧Tch [p,q] w (w'.setCell ⟨q,0,none⟩ v'))))∨(∃ t' v',e = .panicked [{ v := .iface t' v',recovered:=false }])∧¬ (0 < xs.length∧ppL xs 1 n≤xs.length)∧Tch [p,q] w w2):=by
    refine (long_any wr.drew p g a c xs (ppL xs 1 k) hC hrk hb hgp hc0 hc hn hpp).mono ?_
    rintro e w2 ⟨⟨h2,⟨G,rfl,B2,g2⟩,C2⟩ | ⟨h2,t',v',rfl⟩,K2⟩
    rotate_left
    ·exact .inr ⟨⟨t',v',rfl⟩,by omega,((hK.trans (Tch.of_below (S:=[]) ((Below.refl _ wr).drew))).trans K2.tch).mono (by simp)⟩
    rw [hx.out] at B2
    have Q2:=(show RwC wr.drew q [v] t from hQ).kp K2 hqp
    have R2:=(show BRow wr.drew w.heap.size v (clT xs 1 k) bs from hR.of (fun _ _ _=>rfl)).kp K2 hpl
    have hM:=hR.lim
    have T2:Tch [p,q] w w2:=((hK.trans (Tch.of_below (S:=[]) ((Below.refl _ wr).drew))).trans K2.tch).mono (by simp)
    have s0:=hK.size
    have s2:=K2.size
    have g2':wr.heap.size≤G:=g2
    obtain ⟨v',w',ap,R3,kp3,N3,-⟩:=R2.app x ⟨some ⟨G,0,none⟩,x.length,G⟩ T2.size ⟨B2.own0,(fun h=>by cases h),Nat.le_refl _⟩ wr.heap.size s0 (fun i hi h0=>hR.lt hi h0) hM g2' (by rw [clT_len];omega)
    have Q3:RwC w' q [v] t:=(kp3 q Q2.lt (fun e=>by have:=(R2.o.lt _ e).1;omega)).trans Q2
    have C3:=C2.belw N3 hpl
    have T3:Tch [p,q] w w':=⟨N3.os.trans T2.os,N3.tape.trans T2.tape,N3.output.trans T2.output,Nat.le_trans T2.size N3.size,fun b hb hn=>(N3.block b hb).trans (T2.block b hb hn)⟩
    have O:=Only.setCell w' q 0 v'
    refine .inl ⟨G,by rw [xl],Q2.cell 0,(Q2.up ((Below.refl _ _).alloc (Nat.le_refl _) _)).cell 0,v',w',ap,(by obtain ⟨a3,c3,e3,-⟩:=R3.slice;exact ⟨a3,_,c3,e3⟩),Q3.cell 0,Q3.free 0,bs ++ [⟨some ⟨G,0,none⟩,x.length,G⟩],Q3.set 0 _,?_,C3.only' O (fun h=>hqp h.symm),by omega,(T3.trans (Tch.of_only O)).mono (by simp)⟩
    rw [clT_step,hx.out]
    exact R3.onl O hql
   have c0:=hQ.cell 0
   have ST:=hide hQ
   clear hrk hC hR hK hQ xl xm LE e2 hx
   go_wp2
   go_region_law (first
    | (go_simp;go_at_call 104;refine LO.out.mono ?_;rintro e w2 (⟨G,rfl,m1,m2,AP⟩ | ⟨⟨t',v',rfl⟩,h2,T2⟩);rotate_left;(go_must (go_wp2;exact ⟨rfl,.inr ⟨h2,t',v',rfl⟩,T2⟩)))
    | (go_must (refine step_append_exM rfl (.tmp 12) (.tmp 16) 24 24 rfl v (.slice (some ⟨w2.heap.size,0,none⟩) 1 1) rfl rfl _ AP ?_);rintro v3 w3 ⟨⟨a3,n3,c3,rfl⟩,m3,f3,bs',FF⟩)
    | fail)
   all_goals
    go_wp2
    go_roundw
    case rel=>exact ⟨k+1,_,bs',by omega,by go_num,FF.out.1,FF.out.2.1,FF.out.2.2.1,FF.out.2.2.2.1,FF.out.2.2.2.2⟩
    case measure=>simp [intOf];omega
  ·obtain rfl : k = n := by omega
   have HQ:=hide hQ
   have HR:=hide hR
   have HK:=hide hK
   clear hR hC hK hQ
   go_wp2
   go_end0
   exact ⟨.inl ⟨h1,hpp,rfl,v,bs,HQ.out,HR.out⟩,HK.out⟩
end Go.Proofs.YtmmbkkfjiaoeiaaGreat
namespace Go.Proofs.YtmmbkkfjiaoeiaaGreat
open Go Go.RowKit
def tkF (xs:List Int) (at_ n:Nat):List Int:=(List.range n).map fun i=>xs.getD (at_+i) 0
theorem tkF_len (xs:List Int) (at_ n:Nat):(tkF xs at_ n).length=n:=by simp [tkF]
theorem tkF_get (xs:List Int) (at_ n i:Nat) (h:i < n):(tkF xs at_ n).getD i 0=xs.getD (at_+i) 0:=by simp [tkF,h]
def TkTo (xs:List Int) (at_ n:Nat) (ys:List Int) (k:Nat):Prop:=ys.length=n∧(∀ i,i < k→ys.getD i 0=xs.getD (at_+i) 0)∧∀ i,k≤i→ys.getD i 0=0
theorem TkTo.zero (xs:List Int) (at_ n:Nat):TkTo xs at_ n (List.replicate n 0) 0:=⟨by simp,fun i hi=>absurd hi (by omega),fun i _=>by
 rw [List.getD_eq_getElem?_getD,List.getElem?_replicate]
 split <;> rfl⟩
theorem TkTo.step {xs:List Int} {at_ n:Nat} {ys:List Int} {k:Nat} (h:TkTo xs at_ n ys k) (hk:k < n):TkTo xs at_ n (ys.set k (xs.getD (at_+k) 0)) (k+1):=by
 refine ⟨by simpa using h.1,fun i hi=>?_,fun i hi=>?_⟩
 ·by_cases e : k = i
  ·subst e
   rw [getD_set_self _ _ _ (by rw [h.1];exact hk)]
  ·rw [getD_set_ne _ _ _ _ e]
   exact h.2.1 i (by omega)
 ·rw [getD_set_ne _ _ _ _ (by omega)]
  exact h.2.2 i (by omega)
theorem TkTo.skip {xs:List Int} {at_ n:Nat} {ys:List Int} {k:Nat} (h:TkTo xs at_ n ys k) (hk:xs.length≤at_+k):TkTo xs at_ n ys (k+1):=by
 refine ⟨h.1,fun i hi=>?_,fun i hi=>h.2.2 i (by omega)⟩
 by_cases e:i=k
 ·subst e
  rw [h.2.2 i (Nat.le_refl _),List.getD_eq_getElem?_getD,List.getElem?_eq_none (by omega)]
  rfl
 ·exact h.2.1 i (by omega)
theorem TkTo.all {xs:List Int} {at_ n:Nat} {ys:List Int} (h:TkTo xs at_ n ys n):ys=tkF xs at_ n :=
 eq_of_getD (by rw [h.1,tkF_len]) (fun i hi=>by rw [h.1] at hi;rw [h.2.1 i hi,tkF_get xs at_ n i hi])
set_option maxRecDepth 100000 in
set_option maxHeartbeats 4000000 in
theorem l13TakeM_any (w : World) (q g : Nat) (a : Option Addr) (c : Nat) (xs : List Int) (at_ n : Nat) (hr : Rd w g a .u8 xs) (hq : RwC w q [.slice a xs.length c, .int .i64 at_] 105) (hx : xs.length ≤ 1048576) (ha : at_ ≤ 4294967296) (hn : n ≤ 1048576) :
  Calls Tryz.prog 51 #[.pointer (some ⟨q,0,none⟩),.int .i64 n] w fun e w'=>e = .returned (.slice (some ⟨w.heap.size,0,none⟩) n n)∧Blk w' w.heap.size .u8 (tkF xs at_ n)∧RwC w' q [.slice a xs.length c,.int .i64 ((at_+n:Nat):Int)] 105∧Tch [q] w w':=by
 obtain ⟨i0,hi,hz0,hz1,hz2⟩:=info_parts Tryz.info5
 have hql:=hq.lt
 go_enter Tryz.func51,Tryz.ntmps51
 go_wp2_with (at_make;refine wpList_make_full _ rfl _ _ 22 rfl w.heap.size 5 i0 (.int .u8 0) 1 Tryz.underlying22 hi hz0 hz1 .i64 .i64 _ _ n rfl rfl rfl rfl (by rw [hz2];omega) (by unfold maxLen;omega) (Nat.le_refl _) ?_;intro w1 hown hgrow)
 have hB0:=Blk.of_made hown
 have hN0:Below w.heap.size w w1:=(Below.refl _ _).grown hgrow (Nat.le_refl _) (by simp)
 clear hown hgrow
 go_loopw [6] (fun i wr=>∃ (k:Nat) (ys:List Int),k≤n∧i = .int .i64 k∧TkTo xs at_ n ys k∧Blk wr w.heap.size .u8 ys∧Below w.heap.size w wr) (fun i _=>n - (intOf i).toNat)
 case atStart=>exact ⟨0,_,Nat.zero_le _,rfl,TkTo.zero xs at_ n,hB0,hN0⟩
 case round =>
  obtain ⟨k,ys,hk,rfl,hT,hB,hN⟩:=hrel
  clear hB0 hN0
  have Q:=hq.up hN
  have c0:wr.cell? ⟨q,0,none⟩=some (.slice a xs.length c):=Q.cell 0
  have c1:wr.cell? ⟨q,1,none⟩=some (.int .i64 at_):=Q.cell 1
  by_cases hlt:k < n
  ·have t0 : (k : Int) < (n : Int) := by omega
   have s1:IntKind.i64.wrap ((at_:Int)+(k:Int))=((at_+k:Nat):Int):=by rw [IntKind.wrap_i64];omega
   by_cases hin:at_+k < xs.length
   ·obtain ⟨off, rfl, hc⟩ := (hr.up hN) (by omega)
    have t1:((at_+k:Nat):Int) < (xs.length:Int):=by omega
    have hcx:=hc (at_+k) hin
    have hcy:wr.cell? ⟨w.heap.size,k,none⟩=some (.int .u8 (ys.getD k 0)):=hB.cell (by rw [hT.1];exact hlt)
    have hfy:=hB.free k
    have hB':=hide (hB.store k (xs.getD (at_+k) 0))
    have hN':Hid (Below w.heap.size w (wr.setCell ⟨w.heap.size,k,none⟩ (.int .u8 (xs.getD (at_+k) 0)))):=hN.setCell (Nat.le_refl _) _
    have R:=hide (hT.step hlt)
    have NN:=hide hN
    generalize xs.getD (at_+k) 0=x at *
    generalize ys.getD k 0=y at *
    have HB:=hide hB
    clear hB hN hc hT Q hB' hN'
    go_wp2
    go_quiet (fail)
    go_wp2
    have c0:(wr.drewN nq).cell? ⟨q,0,none⟩=some (.slice (some ⟨g,off,none⟩) xs.length c):=c0
    have c1:(wr.drewN nq).cell? ⟨q,1,none⟩=some (.int .i64 at_):=c1
    have hcx:(wr.drewN nq).cell? ⟨g,off+(at_+k),none⟩=some (.int .u8 x):=hcx
    have hcy:(wr.drewN nq).cell? ⟨w.heap.size,k,none⟩=some (.int .u8 y):=hcy
    have hfy:(wr.drewN nq).frozen? ⟨w.heap.size,k,none⟩=false:=hfy
    have HB:Hid (Blk (wr.drewN nq) w.heap.size .u8 ys):=HB
    have NN:=hide (below_drewN NN.out nq)
    generalize wr.drewN nq=wz at *
    have kl:k < n:=hlt
    go_region
    go_wp2
    go_roundw
    case rel=>exact ⟨k+1,_,by omega,by go_num,R.out,HB.out.store k x,(show Below w.heap.size w (wz.setCell ⟨w.heap.size,k,none⟩ (.int .u8 x)) from NN.out.setCell (Nat.le_refl _) _).drew⟩
    case measure=>simp [intOf];omega
   ·have t1 : ¬ ((at_ + k : Nat) : Int) < (xs.length : Int) := by omega
    have R:=hide (hT.skip (by omega))
    have NN:=hide hN
    have HB:=hide hB
    clear hT hN hB Q
    go_wp2
    go_quiet (fail)
    go_wp2
    go_roundw
    case rel=>exact ⟨k+1,_,by omega,by go_num,R.out,HB.out,below_drewN NN.out _⟩
    case measure=>simp [intOf];omega
  ·obtain rfl : k = n := by omega
   have hf:wr.frozen? ⟨q,1,none⟩=false:=Q.free 1
   have E:=hide hT.all
   have HB:=hide hB
   have NN:=hide hN
   have HQ:=hide Q
   have O:=Only.setCell wr q 1 (.int .i64 ((at_:Int)+(k:Int)))
   have e1:((at_+k:Nat):Int)=(at_:Int)+(k:Int):=by omega
   have FB:Hid (Blk (wr.setCell ⟨q,1,none⟩ (.int .i64 ((at_:Int)+(k:Int)))) w.heap.size .u8 (tkF xs at_ k)):=by
    show Blk _ _ _ _
    rw [← E.out]
    exact HB.out.of_block (O.block w.heap.size (by omega))
   have FQ:Hid (RwC (wr.setCell ⟨q,1,none⟩ (.int .i64 ((at_:Int)+(k:Int)))) q [.slice a xs.length c,.int .i64 ((at_+k:Nat):Int)] 105):=by
    show RwC _ _ _ _
    rw [e1]
    exact HQ.out.set 1 _
   have FT:Hid (Tch [q] w (wr.setCell ⟨q,1,none⟩ (.int .i64 ((at_:Int)+(k:Int))))):=(Tch.of_below (S:=[]) NN.out).trans (Tch.of_only O)
   clear hT hB hN Q O e1 E HB HQ NN
   go_wp2
   go_ret
   exact ⟨rfl,FB.out,FQ.out,FT.out⟩
end Go.Proofs.YtmmbkkfjiaoeiaaGreat
namespace Go.Proofs.YtmmbkkfjiaoeiaaGreat
open Go Go.RowKit
def beV (l:List Int):Int:=l.foldl (fun v b=>v*256+b) 0
theorem beV_snoc (l:List Int) (b:Int):beV (l ++ [b])=beV l*256+b:=by simp [beV,List.foldl_append]
theorem beV_bound:∀ (k:Nat) (l:List Int),l.length=k→(∀ b ∈ l,0≤b∧b < 256)→0≤beV l∧beV l < 256 ^ k
  | 0, l, hl, _ => by
    obtain rfl:=List.length_eq_zero_iff.1 hl
    exact ⟨by decide,by decide⟩
  | k + 1, l, hl, hb => by
    have e:l=l.take k ++ [l[k]'(by omega)]:=by
      rw [← List.take_succ_eq_append_getElem (by omega),List.take_of_length_le (by omega)]
    have h1:=beV_bound k (l.take k) (by rw [List.length_take];omega) (fun b h=>hb b (List.mem_of_mem_take h))
    have h2:=hb (l[k]'(by omega)) (List.getElem_mem _)
    rw [e,beV_snoc,Int.pow_succ]
    omega
theorem beV_small (l:List Int) (hl:l.length≤4) (hb:∀ b ∈ l,0≤b∧b < 256):0≤beV l∧beV l < 4294967296:=by
 obtain ⟨h1,h2⟩:=beV_bound l.length l rfl hb
 refine ⟨h1,?_⟩
 have:l.length=0∨l.length=1∨l.length=2∨l.length=3∨l.length=4:=by omega
 rcases this with e | e | e | e | e <;> rw [e] at h2 <;> omega
theorem tkF_byt {xs:List Int} (hb:Byt xs) (at_ n:Nat):∀ b ∈ tkF xs at_ n,0≤b∧b < 256:=fun b h=>by
 obtain ⟨i,_,rfl⟩:=List.mem_map.1 h
 exact hb (at_+i)
set_option maxRecDepth 100000 in
set_option maxHeartbeats 4000000 in
theorem l13NumberM_any (w : World) (q g : Nat) (a : Option Addr) (c : Nat) (xs : List Int) (at_ n : Nat) (hr : Rd w g a .u8 xs) (hb : Byt xs) (hq : RwC w q [.slice a xs.length c, .int .i64 at_] 105) (hx : xs.length ≤ 1048576) (ha : at_ ≤ 4294967296) (hn : n ≤ 4) :
  Calls Tryz.prog 50 #[.pointer (some ⟨q,0,none⟩),.int .i64 n] w fun e w'=>e = .returned (.int .i64 (beV (tkF xs at_ n)))∧RwC w' q [.slice a xs.length c,.int .i64 ((at_+n:Nat):Int)] 105∧Tch [q] w w':=by
 have TK:=hide (l13TakeM_any w q g a c xs at_ n hr hq hx ha (by omega))
 have BB:=hide (tkF_byt hb at_ n)
 have LL:=hide (tkF_len xs at_ n)
 clear hr hb hq
 generalize tkF xs at_ n=ys at *
 go_enter Tryz.func50,Tryz.ntmps50
 go_wp2_with fail
 refine TK.out.mono ?_
 rintro e w1 ⟨rfl,B,Q,T⟩
 have HB:=hide B
 have HQ:=hide Q
 have HT:=hide T
 clear TK B Q T
 go_wp2
 go_loopw [5,7] (fun v i wr=>∃ k:Nat,k≤n∧i = .int .i64 k∧v = .int .i64 (beV (ys.take k))∧wr=w1) (fun _ i _=>n - (intOf i).toNat)
 case atStart=>exact ⟨0,Nat.zero_le _,rfl,by rw [List.take_zero];rfl,rfl⟩
 case round =>
  obtain ⟨k,hk,rfl,rfl,rfl⟩:=hrel
  by_cases hlt:k < n
  ·have ly := LL.out
   have t0:(k:Int) < (n:Int):=by omega
   have cy:=HB.out.cell (i:=k) (by rw [ly];exact hlt)
   have e1:ys.take (k+1)=ys.take k ++ [ys.getD k 0]:=by
    rw [List.take_succ_eq_append_getElem (by omega),List.getD_eq_getElem?_getD,List.getElem?_eq_getElem (by omega)]
    rfl
   have bn:=beV_small (ys.take k) (by rw [List.length_take];omega) (fun b h=>BB.out b (List.mem_of_mem_take h))
   have bx:0≤ys.getD k 0∧ys.getD k 0 < 256:=BB.out _ (by rw [List.getD_eq_getElem?_getD,List.getElem?_eq_getElem (by omega)];exact List.getElem_mem _)
   have E:=hide (show beV (ys.take (k+1))=beV (ys.take k)*256+ys.getD k 0 by rw [e1,beV_snoc])
   clear e1 ly
   generalize beV (ys.take k)=v at *
   generalize ys.getD k 0=x at *
   go_wp2
   go_roundw
   case rel=>exact ⟨k+1,by omega,by go_num,by rw [E.out],trivial⟩
   case measure=>simp [intOf];omega
  ·obtain rfl : k = n := by omega
   have e:ys.take k=ys:=List.take_of_length_le (by rw [LL.out];exact Nat.le_refl _)
   rw [e]
   clear e
   go_wp2
   go_ret
   exact ⟨rfl,HQ.out,HT.out⟩
theorem tkF_tkB (xs:List Int) (i n:Nat):tkF xs i n=tkB xs i n :=
 eq_of_getD (by rw [tkF_len,tkB_len]) (fun k hk=>by rw [tkF_len] at hk;rw [tkF_get xs i n k hk,tkB_get xs i n k hk])
theorem beV_beN (xs:List Int) (i:Nat):∀ n,beV (tkF xs i n)=beN xs i n
  | 0=>rfl
  | n + 1 => by
    have e:tkF xs i (n+1)=tkF xs i n ++ [xs.getD (i+n) 0]:=by simp [tkF,List.range_succ]
    rw [e,beV_snoc,beV_beN xs i n]
    rfl
theorem takeM_any (w:World) (q g:Nat) (a:Option Addr) (c:Nat) (xs:List Int) (at_ n:Nat) (hr:Rd w g a .u8 xs) (hq:RwC w q [.slice a xs.length c,.int .i64 at_] 105) (hx:xs.length≤1048576) (ha:at_≤4294967296) (hn:n≤1048576) :
  Calls Tryz.prog 51 #[.pointer (some ⟨q,0,none⟩),.int .i64 n] w fun e w'=>e = .returned (.slice (some ⟨w.heap.size,0,none⟩) n n)∧Blk w' w.heap.size .u8 (tkB xs at_ n)∧RwC w' q [.slice a xs.length c,.int .i64 ((at_+n:Nat):Int)] 105∧Tch [q] w w':=by
 rw [← tkF_tkB]
 exact l13TakeM_any w q g a c xs at_ n hr hq hx ha hn
theorem numM_any (w:World) (q g:Nat) (a:Option Addr) (c:Nat) (xs:List Int) (at_ n:Nat) (hr:Rd w g a .u8 xs) (hb:Byt xs) (hq:RwC w q [.slice a xs.length c,.int .i64 at_] 105) (hx:xs.length≤1048576) (ha:at_≤4294967296) (hn:n≤4) :
  Calls Tryz.prog 50 #[.pointer (some ⟨q,0,none⟩),.int .i64 n] w fun e w'=>e = .returned (.int .i64 (beN xs at_ n))∧RwC w' q [.slice a xs.length c,.int .i64 ((at_+n:Nat):Int)] 105∧Tch [q] w w':=by
 rw [← beV_beN]
 exact l13NumberM_any w q g a c xs at_ n hr hb hq hx ha hn
end Go.Proofs.YtmmbkkfjiaoeiaaGreat
namespace Go.Proofs.YtmmbkkfjiaoeiaaGreat
open Go Go.RowKit
theorem RowT.tch {w w':World} {base q:Nat} {v:Value} {ls:List (List UInt8)} (h:RowT w base v ls) (n:Tch [q] w w') (hq:q < base):RowT w' base v ls:=by
 refine ⟨h.1,?_⟩
 rcases h.2 with h' | ⟨g,cap,cur,rfl,hbg,hg,hnc,hcm,hcs,ht⟩
 ·exact .inl h'
 ·exact .inr ⟨g,cap,cur,rfl,hbg,by rw [n.block g ((Array.getElem?_eq_some_iff.1 hg).1) (by simp;omega)];exact hg,hnc,hcm,hcs,ht⟩
theorem ppT_bd {xs:List Int} (hb:Byt xs) (i:Nat):∀ k,ppT xs i k≤i+k*256
  | 0=>by simp [ppT]
  | k + 1 => by
    have:=ppT_bd hb i k
    have h1:=beN_rng hb (ppT xs i k) 1
    have e:ppT xs i (k+1)=ppT xs i k+1+(beN xs (ppT xs i k) 1).toNat:=rfl
    omega
theorem RowT.empty (w:World):RowT (w.alloc (.cells #[] 9)) w.heap.size (.slice (some ⟨w.heap.size,0,none⟩) 0 0) [] :=
 ⟨rfl,.inr ⟨w.heap.size,0,#[],rfl,Nat.le_refl _,heap_alloc_new w _,Nat.le_refl _,by decide,rfl,rfl⟩⟩
set_option maxRecDepth 100000 in
set_option maxHeartbeats 4000000 in
theorem takeListM_any (w : World) (q g : Nat) (a : Option Addr) (c : Nat) (xs : List Int) (i : Nat) (hr : Rd w g a .u8 xs) (hb : Byt xs) (hq : RwC w q [.slice a xs.length c, .int .i64 i] 105) (hgq : 0 < xs.length → g ≠ q) (hx : xs.length ≤ 1048576) (ha : i ≤ 1000000) :
  Calls Tryz.prog 52 #[.pointer (some ⟨q,0,none⟩)] w fun e w'=>(∃ v,e = .returned v∧RowT w' w.heap.size v (txT xs (i+1) (xs.getD i 0).toNat))∧RwC w' q [.slice a xs.length c,.int .i64 ((ppT xs (i+1) (xs.getD i 0).toNat:Nat):Int)] 105∧Tch [q] w w':=by
 have hql:=hq.lt
 have n0:Below w.heap.size w (w.alloc (.cells #[] 9)):=(Below.refl _ _).alloc (Nat.le_refl _) _
 have R0:=RowT.empty w
 have Q0:=hq.up n0
 have r0:=hr.up n0
 have bx:=hb i
 obtain ⟨n,hn1⟩:=Int.eq_ofNat_of_zero_le bx.1
 have e1:(xs.getD i 0).toNat=n:=by omega
 rw [e1]
 have n256:n < 256:=by omega
 have NM:=hide (numM_any (w.alloc (.cells #[] 9)) q g a c xs i 1 r0 hb Q0 hx (by omega) (by omega))
 have e3:beN xs i 1=(n:Int):=by show beN xs i 0*256+xs.getD (i+0) 0=_;rw [Nat.add_zero,hn1];show 0*256+_=_;omega
 rw [e3] at NM
 have GLT:=hide (fun h=>hr.lt h)
 clear hn1 e1 hq bx e3 Q0
 go_enter Tryz.func52,Tryz.ntmps52
 go_wp2_with fail
 refine NM.out.mono ?_
 rintro e w1 ⟨rfl,Q1,T1⟩
 have K1:Tch [q] w w1:=((Tch.of_below (S:=[]) n0).trans T1).mono (by simp)
 have R1:RowT w1 w.heap.size _ []:=R0.tch T1 hql
 have H1:=hide Q1
 have HK:=hide K1
 have HR:=hide R1
 clear NM Q1 T1 R1 K1 R0 r0 n0
 go_wp2
 go_loopw [3,4] (fun v j wr=>∃ k:Nat,k≤n∧j = .int .i64 ((n - k:Nat):Int)∧RowT wr w.heap.size v (txT xs (i+1) k)∧RwC wr q [.slice a xs.length c,.int .i64 ((ppT xs (i+1) k:Nat):Int)] 105∧Tch [q] w wr) (fun _ j _=>(intOf j).toNat)
 case atStart=>exact ⟨0,Nat.zero_le _,rfl,HR.out,H1.out,HK.out⟩
 case round =>
  obtain ⟨k,hk,rfl,hR,hQ,hK⟩:=hrel
  clear H1 HK HR
  by_cases hlt:k < n
  ·have t0 : decide ((0 : Int) < ((n - k : Nat) : Int)) = true := decide_eq_true (by omega)
   have t1:0 < n - k:=by omega
   have t2:IntKind.i64.wrap (((n - k:Nat):Int) - 1)=((n - (k+1):Nat):Int):=by rw [IntKind.wrap_i64];omega
   have PB:=ppT_bd hb (i+1) k
   have hrk:=hr.tchK hK (fun h0=>by have:=hgq h0;simp;omega)
   have N1:=hide (numM_any wr q g a c xs (ppT xs (i+1) k) 1 hrk hb hQ hx (by omega) (by omega))
   have b1:=beN_rng hb (ppT xs (i+1) k) 1
   obtain ⟨m,hm⟩:=Int.eq_ofNat_of_zero_le b1.1
   have e1:(beN xs (ppT xs (i+1) k) 1).toNat=m:=by omega
   have e4:Hid (ppT xs (i+1) (k+1)=ppT xs (i+1) k+1+m):=by show ppT xs (i+1) k+1+(beN xs (ppT xs (i+1) k) 1).toNat=_;rw [e1]
   have e5:Hid (txT xs (i+1) (k+1)=txT xs (i+1) k ++ [txB (tkB xs (ppT xs (i+1) k+1) m)]):=by show _=_;rw [txT_step,e1]
   rw [hm] at N1
   have m256:m < 256:=by omega
   have LN:=hide (txT_len xs (i+1) k)
   have HR:=hide hR
   have HK:=hide hK
   have HRK:=hide hrk
   have PP:=hide PB
   clear hrk hQ hR hK hm e1 b1 PB
   generalize ppT xs (i+1) k=pk at *
   go_wp2_with fail
   refine N1.out.mono ?_
   rintro e w2 ⟨rfl,Q2,T2⟩
   have R2:=HRK.out.tchK T2 (fun h0=>by have:=hgq h0;simp;omega)
   have TK:=hide (takeM_any w2 q g a c xs (pk+1) m R2 Q2 hx (by have:=PP.out;omega) (by omega))
   have HT2:=hide T2
   clear Q2 T2 N1 R2
   go_wp2_with fail
   refine TK.out.mono ?_
   rintro e w3 ⟨rfl,B3,Q3,T3⟩
   obtain ⟨x,hx'⟩:∃ x,Hid (tkB xs (pk+1) m=x):=⟨_,rfl⟩
   have xl:x.length=m:=by rw [← hx'.out,tkB_len]
   rw [hx'.out] at B3 e5
   have KK:Tch [q] w w3:=((HK.out.trans HT2.out).trans T3).mono (by simp)
   have RR:RowT w3 w.heap.size u3 (txT xs (i+1) k):=(HR.out.tch HT2.out hql).tch T3 hql
   have cv:(convert 22 9 (.slice (some ⟨w2.heap.size,0,none⟩) m m)).run Tryz.prog w3 = .ok (.string ⟨⟨txB x⟩⟩) w3:=by
    have:=conv_run w3 w2.heap.size (some ⟨w2.heap.size,0,none⟩) m x B3.own0.rd
    rw [xl,str_is] at this
    exact this
   obtain ⟨v',w',hrun,R4,N4⟩:=append_tx w3 23 w.heap.size u3 _ RR (txB x) (by rw [LN.out];omega) KK.size
   have h1':(Builtin.append_ #[23,23] 23 #[u3,.slice (some ⟨w3.heap.size,0,none⟩) 1 1]).run Tryz.prog (w3.alloc (.cells #[Value.string ⟨⟨txB x⟩⟩] 9)) = .ok v' w':=hrun
   have FR:Hid (RowT w' w.heap.size v' (txT xs (i+1) (k+1))):=by show RowT _ _ _ _;rw [e5.out];exact R4
   have FQ:Hid (RwC w' q [.slice a xs.length c,.int .i64 ((ppT xs (i+1) (k+1):Nat):Int)] 105):=by
    show RwC _ _ _ _
    rw [e4.out]
    exact (N4.block q hql).trans Q3
   have FK:Hid (Tch [q] w w'):=⟨N4.os.trans KK.os,N4.tape.trans KK.tape,N4.output.trans KK.output,Nat.le_trans KK.size N4.size,fun b hb hn=>(N4.block b hb).trans (KK.block b hb hn)⟩
   generalize txB x=ll at *
   clear xl hx' B3 Q3 T3 KK RR R4 N4 HT2 HK HR HRK TK hrun e4 e5 PP LN
   go_wp2_with (first | (refine wpList_convT _ rfl 22 9 (.tmp 16) rfl (.slice (some ⟨w2.heap.size,0,none⟩) m m) rfl _ _ cv ?_) | (at_builtin;refine Lib.wpList_append_run _ rfl _ _ 23 23 rfl _ _ rfl rfl _ _ h1' ?_))
   go_roundw
   case rel=>exact ⟨k+1,by omega,by first | rfl | (congr 1;omega) | go_num,FR.out,FQ.out,FK.out⟩
   case measure=>simp [intOf];omega
  ·obtain rfl : k = n := by omega
   have HR:=hide hR
   have HQ:=hide hQ
   have HK:=hide hK
   have t0:k - k=0:=by omega
   clear hR hQ hK
   go_wp2
   go_ret
   exact ⟨⟨_,rfl,HR.out⟩,HQ.out,HK.out⟩
end Go.Proofs.YtmmbkkfjiaoeiaaGreat
namespace Go.Proofs.YtmmbkkfjiaoeiaaGreat
open Go Go.RowKit
def kfF (m:Msg):Option (Msg × Int):=if m.k=1 then some (helloM m,heF m.v m.r.length m.s.length m.ho m.pr m.ti.length m.bi.length m.ag m.ea) else if m.k=2 then some (answerM m,fpF m.v m.r.length m.s.length) else if m.k=4 then some (ticketM m,tiF m.ag m.ea m.r.length m.ti.length) else if m.k=5 then some (endM m,0) else if m.k=8 then some (extrasM m,exF m.pr m.ea) else if m.k=11 then some (certsM m,ceF m.ce) else if m.k=15 then some (proofM m,pfF 64 m.pf.length) else if m.k=20 then some (finishedM m,pfF 32 m.pf.length) else if m.k=24 then some (updateM m,upF m.ea) else none
def mfF (m:Msg):Int :=
 match kfF m with
 | none=>1
 | some (m',f)=>if sameM m' m=true then f else 2
set_option maxHeartbeats 1000000 in
theorem mf_core (w:World) (vs:Array Value) (x0 x1 x2 x3 x4 x5 x6 x7 x8 x9 x10 x11 x12:Value) (hv:vs = #[x0,x1,x2,x3,x4,x5,x6,x7,x8,x9,x10,x11,x12]) (f:Int)
  (C:∀ W,Below w.heap.size w W→Calls Tryz.prog 16 #[.agg vs] W fun e w'=>(∃ v,e = .returned (.tuple #[v,.int .i64 f]))∧Below W.heap.size W w') :
  Calls Tryz.prog 7 #[.agg vs] w fun e w'=>e = .returned (.int .i64 f)∧Below w.heap.size w w':=by
 subst hv
 have n0:Below w.heap.size w (w.alloc (.cells #[x0,x1,x2,x3,x4,x5,x6,x7,x8,x9,x10,x11,x12] 26)):=(Below.refl _ _).alloc (Nat.le_refl _) _
 have CC:=hide (C _ n0)
 have N0:=hide n0
 have RG:=RwC.range (RwC.new w [x0,x1,x2,x3,x4,x5,x6,x7,x8,x9,x10,x11,x12] 26)
 obtain ⟨d13,hd13,hrow13⟩:=rowM
 clear C n0
 go_enter Tryz.func7,Tryz.ntmps7
 go_wp2_with fail
 refine CC.out.mono ?_
 rintro e w1 ⟨⟨v,rfl⟩,n1⟩
 go_wp2
 go_ret
 exact ⟨rfl,nxt N0.out n1⟩
theorem mf_of {w:World} {s:Bool} {T S:TypeId} {fs:List Value} {f:Int} {e:Ending} {w':World} (h:TyP w s T S fs f e w'):(∃ v,e = .returned (.tuple #[v,.int .i64 (if s=true then f else 2)]))∧Below w.heap.size w w':=by
 obtain ⟨h | h,n⟩:=h
 ·obtain ⟨rfl, rfl⟩ := h
  exact ⟨⟨_,rfl⟩,n⟩
 ·obtain ⟨rfl, q, rfl, _, _⟩ := h
  exact ⟨⟨_,rfl⟩,n⟩
theorem implMF_any (w:World) (p:MQ) (m:Msg) (h:HasM w p m) (i:IsM m) :
  Calls Tryz.prog 7 #[.agg (mgV p m)] w fun e w'=>e = .returned (.int .i64 (mfF m))∧Below w.heap.size w w':=by
 refine mf_core w (mgV p m) _ _ _ _ _ _ _ _ _ _ _ _ _ rfl (mfF m) fun W n=>?_
 unfold mfF kfF
 by_cases h1:m.k=1
 ·rw [if_pos h1]
  exact (typedHello_any W p m (h.up n) i h1).mono fun e w'=>mf_of
 by_cases h2:m.k=2
 ·rw [if_neg h1, if_pos h2]
  exact (typedAnswer_any W p m (h.up n) i h2).mono fun e w'=>mf_of
 by_cases h4:m.k=4
 ·rw [if_neg h1, if_neg h2, if_pos h4]
  exact (typedTicket_any W p m (h.up n) i h4).mono fun e w'=>mf_of
 by_cases h5:m.k=5
 ·rw [if_neg h1, if_neg h2, if_neg h4, if_pos h5]
  exact (typedEnd_any W p m (h.up n) i h5).mono fun e w'=>mf_of
 by_cases h8:m.k=8
 ·rw [if_neg h1, if_neg h2, if_neg h4, if_neg h5, if_pos h8]
  exact (typedExtras_any W p m (h.up n) i h8).mono fun e w'=>mf_of
 by_cases h11:m.k=11
 ·rw [if_neg h1, if_neg h2, if_neg h4, if_neg h5, if_neg h8, if_pos h11]
  exact (typedCerts_any W p m (h.up n) i h11).mono fun e w'=>mf_of
 by_cases h15:m.k=15
 ·rw [if_neg h1, if_neg h2, if_neg h4, if_neg h5, if_neg h8, if_neg h11, if_pos h15]
  exact (typedProof_any W p m (h.up n) i h15).mono fun e w'=>mf_of
 by_cases h20:m.k=20
 ·rw [if_neg h1, if_neg h2, if_neg h4, if_neg h5, if_neg h8, if_neg h11, if_neg h15, if_pos h20]
  exact (typedFinished_any W p m (h.up n) i h20).mono fun e w'=>mf_of
 by_cases h24:m.k=24
 ·rw [if_neg h1, if_neg h2, if_neg h4, if_neg h5, if_neg h8, if_neg h11, if_neg h15, if_neg h20, if_pos h24]
  exact (typedUpdate_any W p m (h.up n) i h24).mono fun e w'=>mf_of
 rw [if_neg h1,if_neg h2,if_neg h4,if_neg h5,if_neg h8,if_neg h11,if_neg h15,if_neg h20,if_neg h24]
 refine (typedNone_any W m.k m.v m.ag m.ea p.a2 p.a3 p.a5 p.a6 p.a9 p.a11 p.a12 m.r.length m.s.length m.pr.length m.ti.length m.bi.length m.ce.length m.pf.length p.c2 p.c3 p.c5 p.c6 p.c9 p.c11 p.c12 ⟨⟨m.ho⟩⟩ m.rs ?_).mono ?_
 ·unfold regV
  rw [if_neg h1,if_neg h2,if_neg h4,if_neg h5,if_neg h8,if_neg h11,if_neg h15,if_neg h20,if_neg h24]
 ·rintro e w' ⟨rfl, n'⟩
  exact ⟨⟨_,rfl⟩,n'⟩
end Go.Proofs.YtmmbkkfjiaoeiaaGreat
