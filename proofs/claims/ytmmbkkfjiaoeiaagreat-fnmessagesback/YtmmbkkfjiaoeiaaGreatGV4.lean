import Derived.Test.YtmmbkkfjiaoeiaaGreatGVxMgN
import Derived.Test.YtmmbkkfjiaoeiaaGreatGVxMgO
import Derived.Test.YtmmbkkfjiaoeiaaGreatGVxMgP
import Derived.Test.YtmmbkkfjiaoeiaaGreatGVxMgQ
import Derived.Test.YtmmbkkfjiaoeiaaGreatGV1
import Derived.Test.YtmmbkkfjiaoeiaaGreatGV2
import Derived.Test.YtmmbkkfjiaoeiaaGreatGV3
import Derived.BigRegion
import Derived.Deep.RegionWith
import Derived.Deep.MidRow
namespace Go.Proofs.YtmmbkkfjiaoeiaaGreat
open Go Go.RowKit
structure Msg where
 k:Int
 v:Int
 r:List Int
 s:List Int
 ho:List UInt8
 pr:List (List UInt8)
 ti:List Int
 ag:Int
 ea:Int
 bi:List Int
 rs:Bool
 ce:List (List Int)
 pf:List Int
structure MQ where
 a2:Option Addr
 c2:Nat
 g2:Nat
 a3:Option Addr
 c3:Nat
 g3:Nat
 a5:Option Addr
 c5:Nat
 g5:Nat
 a6:Option Addr
 c6:Nat
 g6:Nat
 a9:Option Addr
 c9:Nat
 g9:Nat
 a11:Option Addr
 c11:Nat
 g11:Nat
 a12:Option Addr
 c12:Nat
 g12:Nat
 ps:List Plb
def mgV (p:MQ) (m:Msg):Array Value := #[.int .i64 m.k,.int .i64 m.v,.slice p.a2 m.r.length p.c2,.slice p.a3 m.s.length p.c3,.string ⟨⟨m.ho⟩⟩,.slice p.a5 m.pr.length p.c5,.slice p.a6 m.ti.length p.c6,.int .i64 m.ag,.int .i64 m.ea,.slice p.a9 m.bi.length p.c9,.bool m.rs,.slice p.a11 m.ce.length p.c11,.slice p.a12 m.pf.length p.c12]
structure HasM (w:World) (p:MQ) (m:Msg):Prop where
 r:Rd w p.g2 p.a2 .u8 m.r
 s:Rd w p.g3 p.a3 .u8 m.s
 pr:RdT w p.g5 p.a5 m.pr
 ti:Rd w p.g6 p.a6 .u8 m.ti
 bi:Rd w p.g9 p.a9 .u8 m.bi
 ce:RdL w p.g11 p.a11 m.ce p.ps
 pf:Rd w p.g12 p.a12 .u8 m.pf
 prC:m.pr.length≤p.c5
theorem HasM.up {w w':World} {p:MQ} {m:Msg} (h:HasM w p m) (n:Below w.heap.size w w'):HasM w' p m:=⟨h.r.up n,h.s.up n,h.pr.up n,h.ti.up n,h.bi.up n,h.ce.up n,h.pf.up n,h.prC⟩
structure IsM (m:Msg):Prop where
 rB:Byt m.r
 sB:Byt m.s
 tiB:Byt m.ti
 biB:Byt m.bi
 pfB:Byt m.pf
 ceB:∀ i,i < m.ce.length→Byt (m.ce.getD i [])
 rL:m.r.length≤1048576
 sL:m.s.length≤1048576
 prL:m.pr.length≤1048576
 tiL:m.ti.length≤1048576
 biL:m.bi.length≤1048576
 ceL:m.ce.length≤1048576
 pfL:m.pf.length≤1048576
 ceZ:∀ i,i < m.ce.length→(m.ce.getD i []).length≤1048576
 hoL:m.ho.length≤1048576
 prZ:∀ l ∈ m.pr,l.length≤1048576
def sameM (m m':Msg):Bool:=decide (m.k=m'.k) && (decide (m.v=m'.v) && (decide (m.ho=m'.ho) && (decide (m.ag=m'.ag) && (decide (m.ea=m'.ea) && (decide (m.rs=m'.rs) && (decide (m.r=m'.r) && (decide (m.s=m'.s) && (decide (m.ti=m'.ti) && (decide (m.bi=m'.bi) && (decide (m.pf=m'.pf) && (decide (m.pr=m'.pr) && (decide (m.ce=m'.ce)))))))))))))
set_option maxHeartbeats 1000000 in
theorem isSame_any (w:World) (p p':MQ) (m m':Msg) (h:HasM w p m) (h':HasM w p' m') (i:IsM m) (i':IsM m') :
  Calls Tryz.prog 35 #[.agg (mgV p m),.agg (mgV p' m')] w fun e w'=>e = .returned (.bool (sameM m m'))∧Below w.heap.size w w':=by
 unfold mgV
 by_cases e0:m.k=m'.k
 rotate_left
 ·refine (same_k w m.k m'.k m.v m'.v m.ag m'.ag m.ea m'.ea ⟨m.ho⟩ ⟨m'.ho⟩ m.rs m'.rs p.a2 p'.a2 p.a3 p'.a3 p.a5 p'.a5 p.a6 p'.a6 p.a9 p'.a9 p.a11 p'.a11 p.a12 p'.a12 m.r.length m'.r.length p.c2 p'.c2 m.s.length m'.s.length p.c3 p'.c3 m.pr.length m'.pr.length p.c5 p'.c5 m.ti.length m'.ti.length p.c6 p'.c6 m.bi.length m'.bi.length p.c9 p'.c9 m.ce.length m'.ce.length p.c11 p'.c11 m.pf.length m'.pf.length p.c12 p'.c12 e0).mono ?_
  rintro e w1 ⟨rfl,n⟩
  exact ⟨by simp [sameM,e0],n⟩
 rw [← e0]
 by_cases e1:m.v=m'.v
 rotate_left
 ·refine (same_v w m.k m.v m'.v m.ag m'.ag m.ea m'.ea ⟨m.ho⟩ ⟨m'.ho⟩ m.rs m'.rs p.a2 p'.a2 p.a3 p'.a3 p.a5 p'.a5 p.a6 p'.a6 p.a9 p'.a9 p.a11 p'.a11 p.a12 p'.a12 m.r.length m'.r.length p.c2 p'.c2 m.s.length m'.s.length p.c3 p'.c3 m.pr.length m'.pr.length p.c5 p'.c5 m.ti.length m'.ti.length p.c6 p'.c6 m.bi.length m'.bi.length p.c9 p'.c9 m.ce.length m'.ce.length p.c11 p'.c11 m.pf.length m'.pf.length p.c12 p'.c12 e1).mono ?_
  rintro e w1 ⟨rfl,n⟩
  exact ⟨by simp [sameM,e1],n⟩
 rw [← e1]
 by_cases e2:m.ho=m'.ho
 rotate_left
 ·refine (same_ho w m.k m.v m.ag m'.ag m.ea m'.ea ⟨m.ho⟩ ⟨m'.ho⟩ m.rs m'.rs p.a2 p'.a2 p.a3 p'.a3 p.a5 p'.a5 p.a6 p'.a6 p.a9 p'.a9 p.a11 p'.a11 p.a12 p'.a12 m.r.length m'.r.length p.c2 p'.c2 m.s.length m'.s.length p.c3 p'.c3 m.pr.length m'.pr.length p.c5 p'.c5 m.ti.length m'.ti.length p.c6 p'.c6 m.bi.length m'.bi.length p.c9 p'.c9 m.ce.length m'.ce.length p.c11 p'.c11 m.pf.length m'.pf.length p.c12 p'.c12 (fun h => e2 (by injection h))).mono ?_
  rintro e w1 ⟨rfl,n⟩
  exact ⟨by simp [sameM,e2],n⟩
 rw [← e2]
 by_cases e3:m.ag=m'.ag
 rotate_left
 ·refine (same_ag w m.k m.v m.ag m'.ag m.ea m'.ea ⟨m.ho⟩ m.rs m'.rs p.a2 p'.a2 p.a3 p'.a3 p.a5 p'.a5 p.a6 p'.a6 p.a9 p'.a9 p.a11 p'.a11 p.a12 p'.a12 m.r.length m'.r.length p.c2 p'.c2 m.s.length m'.s.length p.c3 p'.c3 m.pr.length m'.pr.length p.c5 p'.c5 m.ti.length m'.ti.length p.c6 p'.c6 m.bi.length m'.bi.length p.c9 p'.c9 m.ce.length m'.ce.length p.c11 p'.c11 m.pf.length m'.pf.length p.c12 p'.c12 e3).mono ?_
  rintro e w1 ⟨rfl,n⟩
  exact ⟨by simp [sameM,e3],n⟩
 rw [← e3]
 by_cases e4:m.ea=m'.ea
 rotate_left
 ·refine (same_ea w m.k m.v m.ag m.ea m'.ea ⟨m.ho⟩ m.rs m'.rs p.a2 p'.a2 p.a3 p'.a3 p.a5 p'.a5 p.a6 p'.a6 p.a9 p'.a9 p.a11 p'.a11 p.a12 p'.a12 m.r.length m'.r.length p.c2 p'.c2 m.s.length m'.s.length p.c3 p'.c3 m.pr.length m'.pr.length p.c5 p'.c5 m.ti.length m'.ti.length p.c6 p'.c6 m.bi.length m'.bi.length p.c9 p'.c9 m.ce.length m'.ce.length p.c11 p'.c11 m.pf.length m'.pf.length p.c12 p'.c12 e4).mono ?_
  rintro e w1 ⟨rfl,n⟩
  exact ⟨by simp [sameM,e4],n⟩
 rw [← e4]
 by_cases e5:m.rs=m'.rs
 rotate_left
 ·refine (same_rs w m.k m.v m.ag m.ea ⟨m.ho⟩ m.rs m'.rs p.a2 p'.a2 p.a3 p'.a3 p.a5 p'.a5 p.a6 p'.a6 p.a9 p'.a9 p.a11 p'.a11 p.a12 p'.a12 m.r.length m'.r.length p.c2 p'.c2 m.s.length m'.s.length p.c3 p'.c3 m.pr.length m'.pr.length p.c5 p'.c5 m.ti.length m'.ti.length p.c6 p'.c6 m.bi.length m'.bi.length p.c9 p'.c9 m.ce.length m'.ce.length p.c11 p'.c11 m.pf.length m'.pf.length p.c12 p'.c12 e5).mono ?_
  rintro e w1 ⟨rfl,n⟩
  exact ⟨by simp [sameM,e5],n⟩
 rw [← e5]
 refine (same_lists w m.k m.v m.ag m.ea ⟨m.ho⟩ m.rs (decide (m.r=m'.r)) (decide (m.s=m'.s)) (decide (m.ti=m'.ti)) (decide (m.bi=m'.bi)) (decide (m.pf=m'.pf)) (decide (m.pr=m'.pr)) (decide (m.ce=m'.ce)) p.a2 p'.a2 p.a3 p'.a3 p.a5 p'.a5 p.a6 p'.a6 p.a9 p'.a9 p.a11 p'.a11 p.a12 p'.a12 m.r.length m'.r.length p.c2 p'.c2 m.s.length m'.s.length p.c3 p'.c3 m.pr.length m'.pr.length p.c5 p'.c5 m.ti.length m'.ti.length p.c6 p'.c6 m.bi.length m'.bi.length p.c9 p'.c9 m.ce.length m'.ce.length p.c11 p'.c11 m.pf.length m'.pf.length p.c12 p'.c12
  (fun W n=>bytesEqual_any W p.g2 p'.g2 p.a2 p'.a2 p.c2 p'.c2 m.r m'.r (h.r.up n) (h'.r.up n) i.rB i'.rB)
  (fun W n=>bytesEqual_any W p.g3 p'.g3 p.a3 p'.a3 p.c3 p'.c3 m.s m'.s (h.s.up n) (h'.s.up n) i.sB i'.sB)
  (fun W n=>bytesEqual_any W p.g6 p'.g6 p.a6 p'.a6 p.c6 p'.c6 m.ti m'.ti (h.ti.up n) (h'.ti.up n) i.tiB i'.tiB)
  (fun W n=>bytesEqual_any W p.g9 p'.g9 p.a9 p'.a9 p.c9 p'.c9 m.bi m'.bi (h.bi.up n) (h'.bi.up n) i.biB i'.biB)
  (fun W n=>bytesEqual_any W p.g12 p'.g12 p.a12 p'.a12 p.c12 p'.c12 m.pf m'.pf (h.pf.up n) (h'.pf.up n) i.pfB i'.pfB)
  (fun W n=>equalTexts_any W p.g5 p'.g5 p.a5 p'.a5 p.c5 p'.c5 m.pr m'.pr (h.pr.up n) (h'.pr.up n) i.prL i'.prL)
  (fun W n=>certEqual_any W p.g11 p'.g11 p.a11 p'.a11 p.c11 p'.c11 m.ce m'.ce p.ps p'.ps (h.ce.up n) (h'.ce.up n) i.ceL i'.ceL i.ceB i'.ceB)).mono ?_
 rintro e w1 ⟨rfl,n⟩
 exact ⟨by simp [sameM,e0,e1,e2,e3,e4,e5],n⟩
end Go.Proofs.YtmmbkkfjiaoeiaaGreat
namespace Go.Proofs.YtmmbkkfjiaoeiaaGreat
open Go Go.RowKit
def poolM:List (List UInt8):=[[101,120,97,109,112,108,101],[97,46,101,120,97,109,112,108,101],[98,46,101,120,97,109,112,108,101],[115,104,111,112,46,101,120,97,109,112,108,101],[119,119,119,46,115,104,111,112,46,101,120,97,109,112,108,101],[120,46,119,119,119,46,115,104,111,112,46,101,120,97,109,112,108,101],[109,97,105,108,46,97,46,101,120,97,109,112,108,101],[97,46,98],[111,116,104,101,114],[48,45,49,46,98,46,101,120,97,109,112,108,101]]
theorem poolM_len:∀ i,i < 10→(poolM.getD i []).length≤18:=by decide
def poolP:List (List UInt8):=[[104,50],[109,97,105,108],[0],[97],[112,114,111,116,111,99,111,108,32,119,105,116,104,32,97,32,108,111,110,103,32,110,97,109,101,32,111,102,32,51,50,46]]
theorem poolP_len:∀ i,i < 5→(poolP.getD i []).length≤32:=by decide
def nxF (xs : List Int) (t n : Int) : Int :=
 if xs.length=0 then t*7 % n else
  (if 200 < n then (xs.getD (t % (xs.length:Int)).toNat 0+t / (xs.length:Int)*37)*251+xs.getD ((t+1) % (xs.length:Int)).toNat 0*13+t
   else xs.getD (t % (xs.length:Int)).toNat 0+t / (xs.length:Int)*37) % n
def l11V (b:Int) (i:Nat):Int:=(b+(i:Int)*(i:Int)) % 256
def l11G (b:Int) (n:Nat):Nat→List Int
 | 0=>List.replicate n 0
 | k+1=>(l11G b n k).set k (l11V b k)
def byF (xs:List Int) (t:Int) (n:Nat):List Int:=l11G (nxF xs t 256) n n
theorem l11G_len (b:Int) (n:Nat):∀ k,(l11G b n k).length=n
 | 0=>by simp [l11G]
 | k+1=>by rw [l11G,List.length_set,l11G_len b n k]
def dbF (xs:List Int) (t:Int):Nat→List Int
 | 0=>[]
 | k+1=>dbF xs t k ++ [nxF xs (t+(k:Int)) 256]
theorem dbF_len (xs:List Int) (t:Int):∀ k,(dbF xs t k).length=k
 | 0=>rfl
 | k+1=>by rw [dbF,List.length_append,dbF_len xs t k];rfl
def nmF (xs:List Int) (t:Int):List UInt8 × Int :=
 if nxF xs (t+1) 20=1 then (List.replicate (62+(nxF xs (t+1+1) 3).toNat) 113,t+1+1+1)
 else if nxF xs (t+1) 20=0 then (120 :: 46 :: poolM.getD (nxF xs t 10).toNat [],t+1+1)
 else (poolM.getD (nxF xs t 10).toNat [],t+1+1)
def grL (x:List UInt8):List UInt8:=x ++ (List.replicate ((127 - x.length) / 8) [46,97,98,99,100,101,102,103]).flatten
theorem grL_step {x:List UInt8} (h:x.length < 120):grL (x ++ [46,97,98,99,100,101,102,103])=grL x:=by
 unfold grL
 have e:(127 - x.length) / 8=(127 - (x ++ [46,97,98,99,100,101,102,103]:List UInt8).length) / 8+1:=by simp;omega
 rw [e,List.replicate_succ,List.flatten_cons,List.append_assoc]
theorem grL_end {x:List UInt8} (h:¬ x.length < 120):grL x=x:=by
 unfold grL
 rw [show (127 - x.length) / 8=0 by omega]
 simp
def anF (xs:List Int) (t:Int):List UInt8 × Int :=
 let x:=(nmF xs t).1
 let u:=(nmF xs t).2
 let k:=nxF xs u 12
 if k=0 then (x ++ [46],u+1)
 else if k=1 then (45 :: x,u+1)
 else if k=2 then ([97,46,46,98],u+1)
 else if k=3 then ([],u+1)
 else if k=4 then (65 :: x,u+1)
 else if k=5 then (grL x ++ List.replicate (nxF xs (u+1) 12).toNat 104,u+1+1)
 else if k=6 then (x.take (nxF xs (u+1) ((x.length:Int)+1)).toNat ++ [UInt8.ofNat (nxF xs (u+1+1) 256).toNat] ++ x.drop (nxF xs (u+1) ((x.length:Int)+1)).toNat,u+1+1+1)
 else (x,u+1)
def prG (xs:List Int):Nat→List (List UInt8)→Int→List (List UInt8) × Int
 | 0,ps,u=>(ps,u)
 | k+1,ps,u=>if poolP.getD (nxF xs u 5).toNat [] ∈ ps then prG xs k ps (u+1) else prG xs k (ps ++ [poolP.getD (nxF xs u 5).toNat []]) (u+1)
def prF (xs:List Int) (t:Int) (n:Nat):List (List UInt8) × Int:=prG xs (nxF xs t ((n:Int)+1)).toNat [] (t+1)
def ms0:Msg:=⟨0,0,[],[],[],[],[],0,0,[],false,[],[]⟩
def heG (xs : List Int) (t : Int) : Msg × Int :=
 let nm:=nmF xs (t+1+1)
 let pr:=prF xs nm.2 4
 let u:=pr.2
 let m:Msg:=⟨1,1,byF xs t 32,byF xs (t+1) 32,nm.1,pr.1,[],0,0,[],false,[],[]⟩
 if nxF xs u 2=0 then
  (⟨1,1,byF xs t 32,byF xs (t+1) 32,nm.1,pr.1,if nxF xs (u+1+1+1) 8=0 then List.replicate 400 0 else byF xs (u+1+1) (1+(nxF xs (u+1) 60).toNat),nxF xs (u+1+1+1+1) 4294967296,nxF xs (u+1+1+1+1+1) 2,byF xs (u+1+1+1+1+1+1) 32,false,[],[]⟩,u+1+1+1+1+1+1+1)
 else (m,u+1)
def hdF (xs:List Int) (t:Int):Msg × Int :=
 let z:=heG xs t
 if nxF xs z.2 8=0 then ({ z.1 with v:=nxF xs (z.2+1) 256 },z.2+1+1) else (z.1,z.2+1)
def ceG (xs:List Int):Nat→List (List Int)→Int→List (List Int) × Int
 | 0,cs,u=>(cs,u)
 | k+1,cs,u=>ceG xs k (cs ++ [byF xs (u+1+1) (if nxF xs (u+1) 10=0 then 2000 else 1+(nxF xs u 50).toNat)]) (u+1+1+1)
def msF (xs:List Int) (t:Int):Msg × Int :=
 let k:=nxF xs t 10
 let u:=t+1
 if k=0 then (⟨2,1+nxF xs u 2,byF xs (u+1) 32,byF xs (u+1+1) 32,[],[],[],0,0,[],decide (nxF xs (u+1+1+1) 2=0),[],[]⟩,u+1+1+1+1)
 else if k=1 then (⟨4,0,byF xs (u+1+1) 32,[],[],[],byF xs (u+1+1+1+1) (1+(nxF xs (u+1+1+1) 50).toNat),nxF xs u 1000,nxF xs (u+1) 4294967296,[],false,[],[]⟩,u+1+1+1+1+1)
 else if k=2 then ({ ms0 with k:=5 },u)
 else if k=3 then ({ ms0 with k:=8,pr:=(prF xs u 1).1,ea:=nxF xs (prF xs u 1).2 2 },(prF xs u 1).2+1)
 else if k=4 then ({ ms0 with k:=11,ce:=(ceG xs (1+(nxF xs u 4).toNat) [] (u+1)).1 },(ceG xs (1+(nxF xs u 4).toNat) [] (u+1)).2)
 else if k=5 then ({ ms0 with k:=15,pf:=byF xs u 64 },u+1)
 else if k=6 then ({ ms0 with k:=20,pf:=byF xs u 32 },u+1)
 else if k=7 then ({ ms0 with k:=24,ea:=nxF xs u 2 },u+1)
 else hdF xs u
def nineT:List (List UInt8):=[[49],[50],[51],[52],[53],[54],[55],[56],[57]]
def brF (xs:List Int) (t:Int) (m:Msg):Msg :=
 let k:=nxF xs t 20
 let u:=t+1
 if k=0 then { m with k:=nxF xs u 30 }
 else if k=1 then { m with v:=256*nxF xs u 2 }
 else if k=2 then { m with r:=dbF xs (u+1) (31+(nxF xs u 3).toNat) }
 else if k=3 then { m with s:=dbF xs (u+1) (33*(nxF xs u 2).toNat) }
 else if k=4 then { m with ho:=(anF xs u).1 }
 else if k=5 then { m with pr:=m.pr ++ [[104,50],[104,50]] }
 else if k=6 then { m with pr:=m.pr ++ [[]] }
 else if k=7 then { m with pr:=m.pr ++ [[97,32,112,114,111,116,111,99,111,108,32,119,104,111,115,101,32,110,97,109,101,32,104,97,115,32,51,51,32,98,121,116,101]] }
 else if k=8 then { m with ti:=List.replicate (400+(nxF xs u 2).toNat) 0 }
 else if k=9 then { m with ti:=[] }
 else if k=10 then { m with ag:=4294967295+nxF xs u 2 }
 else if k=11 then { m with ag:=-1 }
 else if k=12 then { m with ea:=1+nxF xs u 2 }
 else if k=13 then { m with ea:=4294967295+nxF xs u 2 }
 else if k=14 then { m with bi:=dbF xs (u+1) (32*(nxF xs u 2).toNat) }
 else if k=15 then { m with rs:=true }
 else if k=16 then { m with ce:=m.ce ++ [List.replicate (2000+(nxF xs u 2).toNat) 0] }
 else if k=17 then { m with ce:=m.ce ++ [[]] }
 else if k=18 then { m with pf:=dbF xs (u+1) (32+32*(nxF xs u 2).toNat) }
 else { m with pr:=nineT.drop (nxF xs u 2).toNat }
def mbF (xs:List Int):Msg :=
 let z:=msF xs 0
 if nxF xs z.2 3=0 then brF xs (z.2+1) z.1 else z.1
end Go.Proofs.YtmmbkkfjiaoeiaaGreat
namespace Go.Proofs.YtmmbkkfjiaoeiaaGreat
open Go Go.RowKit
structure Drm (w:World) (s g:Nat) (a:Option Addr) (c:Nat) (xs:List Int) (t:Int):Prop where
 S:Src w s a xs.length c t
 R:Rd w g a .u8 xs
 ne:0 < xs.length→g≠s
 hb:Byt xs
 hl:xs.length≤4194304
 t0:0≤t
theorem Drm.up {w w':World} {s g:Nat} {a:Option Addr} {c:Nat} {xs:List Int} {t:Int} (h:Drm w s g a c xs t) (n:Below w.heap.size w w'):Drm w' s g a c xs t:=⟨h.S.up n,h.R.up n,h.ne,h.hb,h.hl,h.t0⟩
set_option maxHeartbeats 2000000 in
theorem l1NextM_any (w:World) (s g:Nat) (a:Option Addr) (c:Nat) (xs:List Int) (t n:Int) (hs:Src w s a xs.length c t) (hr:Rd w g a .u8 xs) (hne:0 < xs.length→g≠s) (hb:Byt xs) (hl:xs.length≤4194304)
  (t0:0≤t) (t1:t≤1048576) (n0:1≤n) (n1:n≤1099511627776) :
  Calls Tryz.prog 29 #[.pointer (some ⟨s,0,none⟩),.int .i64 n] w fun e w'=>e = .returned (.int .i64 (nxF xs t n))∧(0≤nxF xs t n∧nxF xs t n < n)∧Src w' s a xs.length c (t+1)∧Only s w w':=by
 have c0:=hs.code
 have c1:=hs.at_
 have f1:=hs.free
 have k1:(w.setCell ⟨s,1,none⟩ (.int .i64 (t+1))).cell? ⟨s,1,none⟩=some (.int .i64 (t+1)):=World.cell?_setCell_same _ _ _ hs.at_
 have k0:(w.setCell ⟨s,1,none⟩ (.int .i64 (t+1))).cell? ⟨s,0,none⟩=some (.slice a xs.length c):=by rw [World.cell?_setCell_other (h:=by simp)];exact hs.code
 have tn:decide (n < 1)=false:=by simp;omega
 by_cases h0:xs.length=0
 ·have hk : ((xs.length : Int) == 0) = true := by simp [h0]
  have r0:=Int.emod_nonneg (t*7) (show n≠0 by omega)
  have r1:=Int.emod_lt_of_pos (t*7) (show 0 < n by omega)
  have V:nxF xs t n=t*7 % n:=by unfold nxF;rw [if_pos h0]
  rw [V]
  clear V
  have S:=hs.step (t+1) 0
  have O:=Only.step w s (.int .i64 (t+1)) 0
  clear h0
  go_enter Tryz.func29,Tryz.ntmps29
  go_wp2
  go_ret
  exact ⟨rfl,⟨r0,r1⟩,S,O⟩
 ·have hk : ((xs.length : Int) == 0) = false := beq_eq_false_iff_ne.2 (by omega)
  obtain ⟨off,rfl,hc⟩:=hr (by omega)
  have gs:g≠s:=hne (by omega)
  obtain ⟨i1,hi1⟩:=Int.eq_ofNat_of_zero_le (Int.emod_nonneg t (show (xs.length:Int)≠0 by omega))
  have li1:(i1:Int) < (xs.length:Int):=by rw [← hi1];exact Int.emod_lt_of_pos _ (by omega)
  obtain ⟨i2,hi2⟩:=Int.eq_ofNat_of_zero_le (Int.emod_nonneg (t+1) (show (xs.length:Int)≠0 by omega))
  have li2:(i2:Int) < (xs.length:Int):=by rw [← hi2];exact Int.emod_lt_of_pos _ (by omega)
  obtain ⟨q,hq⟩:∃ q,t / (xs.length:Int)=q:=⟨_,rfl⟩
  have q0:0≤q:=by rw [← hq];exact Int.ediv_nonneg t0 (by omega)
  have q1:q≤1048576:=by rw [← hq];exact Int.le_trans (Int.ediv_le_self _ t0) t1
  have x1:(w.setCell ⟨s,1,none⟩ (.int .i64 (t+1))).cell? ⟨g,off+i1,none⟩=some (.int .u8 (xs.getD i1 0)):=by rw [World.cell?_setCell_other (h:=fun e=>gs (by simpa using (congrArg Addr.block e).symm))];exact hc i1 (by omega)
  have x2:(w.setCell ⟨s,1,none⟩ (.int .i64 (t+1))).cell? ⟨g,off+i2,none⟩=some (.int .u8 (xs.getD i2 0)):=by rw [World.cell?_setCell_other (h:=fun e=>gs (by simpa using (congrArg Addr.block e).symm))];exact hc i2 (by omega)
  have b1:=hb i1
  have b2:=hb i2
  have S:=fun m=>hs.step (t+1) m
  have O:=fun m=>Only.step w s (.int .i64 (t+1)) m
  have V:nxF xs t n=(if 200 < n then (xs.getD i1 0+q*37)*251+xs.getD i2 0*13+t else xs.getD i1 0+q*37) % n:=by
   unfold nxF
   rw [if_neg h0,hi1,hi2,hq]
   rfl
  generalize xs.getD i1 0=x at *
  generalize xs.getD i2 0=y at *
  rw [V]
  clear V
  clear hc hs hr h0
  by_cases hn:n≤200
  ·have tn2 : decide (200 < n) = false := by simp; omega
   rw [if_neg (by omega:¬ 200 < n)]
   have r0:=Int.emod_nonneg (x+q*37) (show n≠0 by omega)
   have r1:=Int.emod_lt_of_pos (x+q*37) (show 0 < n by omega)
   clear x2 hi2 li2 b2
   go_enter Tryz.func29,Tryz.ntmps29
   go_wp2
   go_quiet (fail)
   go_wp2
   go_ret
   exact ⟨rfl,⟨r0,r1⟩,S _,O _⟩
  ·have tn2 : decide (200 < n) = true := by simp; omega
   rw [if_pos (by omega:200 < n)]
   have r0:=Int.emod_nonneg ((x+q*37)*251+y*13+t) (show n≠0 by omega)
   have r1:=Int.emod_lt_of_pos ((x+q*37)*251+y*13+t) (show 0 < n by omega)
   go_enter Tryz.func29,Tryz.ntmps29
   go_wp2
   go_quiet (fail)
   go_wp2
   go_quiet (fail)
   go_wp2
   go_ret
   exact ⟨rfl,⟨r0,r1⟩,S _,O _⟩
theorem next_M {w:World} {s g:Nat} {a:Option Addr} {c:Nat} {xs:List Int} {t n:Int} (d:Drm w s g a c xs t) (t1:t≤1048576) (n0:1≤n) (n1:n≤1099511627776) :
  Calls Tryz.prog 29 #[.pointer (some ⟨s,0,none⟩),.int .i64 n] w fun e w'=>∃ r:Nat,e = .returned (.int .i64 (r:Int))∧nxF xs t n=(r:Int)∧(r:Int) < n∧Drm w' s g a c xs (t+1)∧But s w w':=by
 refine (l1NextM_any w s g a c xs t n d.S d.R d.ne d.hb d.hl d.t0 t1 n0 n1).mono ?_
 rintro e w' ⟨rfl,⟨h0,h1⟩,S,O⟩
 obtain ⟨k,hk⟩:=Int.eq_ofNat_of_zero_le h0
 rw [hk] at h1 ⊢
 have B:=But.ofOnly O
 exact ⟨k,rfl,rfl,h1,⟨S,d.R.but B d.ne,d.ne,d.hb,d.hl,by have:=d.t0;omega⟩,B⟩
theorem chance_M {w:World} {s g:Nat} {a:Option Addr} {c:Nat} {xs:List Int} {t n:Int} (d:Drm w s g a c xs t) (t1:t≤1048576) (n0:1≤n) (n1:n≤1048576) :
  Calls Tryz.prog 27 #[.pointer (some ⟨s,0,none⟩),.int .i64 n] w fun e w'=>∃ b,e = .returned (.bool b)∧b=decide (nxF xs t n=0)∧Drm w' s g a c xs (t+1)∧But s w w':=by
 go_enter Tryz.func27,Tryz.ntmps27
 go_wp2_with fail
 refine (next_M d t1 n0 (by omega)).mono ?_
 rintro e w1 ⟨r,rfl,hr,_,d1,b1⟩
 have E:Hid (decide (nxF xs t n=0)=((r:Int) == 0)):=by
  show _=_
  rw [hr]
  by_cases h:(r:Int)=0
  ·rw [decide_eq_true h,h];rfl
  ·rw [decide_eq_false h,beq_eq_false_iff_ne.2 h]
 clear hr d
 go_wp2
 go_ret
 exact ⟨_,rfl,E.out.symm,d1,b1⟩
set_option maxRecDepth 100000 in
set_option maxHeartbeats 1000000 in
theorem l11PoolM_any (w:World):Calls Tryz.prog 71 #[] w fun e w'=>e = .returned (.slice (some ⟨w.heap.size,0,none⟩) 10 10)∧BlkT w' w.heap.size poolM∧Below w.heap.size w w':=by
 have HB:Hid (BlkT (w.alloc (.cells (poolM.map tx).toArray 9)) w.heap.size poolM):=heap_alloc_new w _
 have HN:Hid (Below w.heap.size w (w.alloc (.cells (poolM.map tx).toArray 9))):=(Below.refl _ _).alloc (Nat.le_refl _) _
 simp only [poolM,List.map_cons,List.map_nil,tx] at HB HN
 go_enter Tryz.func71,Tryz.ntmps71
 go_wp2
 go_ret
 exact ⟨rfl,HB.out,HN.out⟩
set_option maxHeartbeats 4000000 in
theorem drawName_M {w : World} {s g : Nat} {a : Option Addr} {c : Nat} {xs : List Int} {t : Int} (d : Drm w s g a c xs t) (t1 : t ≤ 1000000) :
  Calls Tryz.prog 69 #[.pointer (some ⟨s,0,none⟩)] w fun e w'=>∃ (l:List UInt8) (u:Int),e = .returned (.string ⟨⟨l⟩⟩)∧nmF xs t=(l,u)∧l.length≤70∧u≤t+3∧Drm w' s g a c xs u∧But s w w':=by
 have D0:=hide d
 clear d
 go_enter Tryz.func69,Tryz.ntmps69
 go_wp2_with fail
 refine (l11PoolM_any w).mono ?_
 rintro e w1 ⟨rfl,B1,n1⟩
 have D1:=hide (D0.out.up n1)
 have U1:Hid (But s w w1):=But.ofBelow n1
 have slt:Hid (s < w.heap.size):=D0.out.S.lt
 go_wp2_with fail
 refine (next_M D1.out (by omega) (by omega) (by omega)).mono ?_
 rintro e w2 ⟨r,rfl,er,hr,d2,b2⟩
 have ER:=hide er
 have D2:=hide d2
 have U2:=hide (U1.out.trans b2)
 have B2:BlkT w2 w.heap.size poolM:=(b2.block w.heap.size B1.lt (by have:=slt.out;omega)).trans B1
 have c2:=B2.cell (i:=r) (by show r < 10;omega)
 have pl:=poolM_len r (by omega)
 have EX:Hid (poolM.getD (nxF xs t 10).toNat []=poolM.getD r []):=by show _=_;rw [ER.out];rfl
 clear er ER
 generalize poolM.getD r []=x at *
 have xs':=tx_size x
 unfold tx at c2
 have hr2:(r:Int) < 10:=by omega
 clear d2 b2 B1 B2 n1 D1 U1 D0 slt
 go_wp2_with fail
 refine (next_M D2.out (by omega) (by omega) (by omega)).mono ?_
 rintro e w3 ⟨k,rfl,ek,hk,d3,b3⟩
 have EK:=hide ek
 clear ek
 have D3:=hide d3
 have U3:=hide (U2.out.trans b3)
 clear d3 b3 c2 hr D2 U2
 by_cases k0:k=0
 ·subst k0
  rw [show ((0:Nat):Int)=0 from rfl]
  have ad:∀ W:World,(Op.stringOp .add (ByteArray.mk #[120,46]) (ByteArray.mk ⟨x⟩)).run Tryz.prog W = .ok (.string ⟨⟨120 :: 46 :: x⟩⟩) W:=fun W=>tx_add W [120,46] x (by simp;omega)
  go_wp2
  go_ret
  exact ⟨120 :: 46 :: x,_,rfl,by unfold nmF;rw [EK.out,EX.out,if_neg (by decide),if_pos (by decide)],by simp;omega,by omega,D3.out,U3.out⟩
 ·have e0 : ((k : Int) == 0) = false := by simp; omega
  by_cases k1:k=1
  ·subst k1
   rw [show ((1:Nat):Int)=1 from rfl]
   go_wp2_with fail
   refine (next_M D3.out (by omega) (by omega) (by omega)).mono ?_
   rintro e w4 ⟨m,rfl,em,hm,d4,b4⟩
   have EM:=hide em
   clear em
   have D4:=hide d4
   have U4:=hide (U3.out.trans b4)
   clear d4 b4 D3 U3 e0
   go_wp2
   go_loopw [4,6] (fun v i wr=>wr=w4∧∃ (l:List UInt8) (j:Nat),v = .string ⟨⟨l⟩⟩∧i = .int .i64 j∧l.length+j≤64∧Hid (l ++ List.replicate j 113=List.replicate (62+m) 113)) (fun _ i _=>(intOf i).toNat)
   case atStart=>exact ⟨rfl,[],62+m,rfl,by go_num,by simp;omega,by show _=_;simp⟩
   case round =>
    obtain ⟨e1,l,j,rfl,rfl,hl,HR⟩:=hrel
    subst e1
    by_cases hj:j=0
    ·subst hj
     rw [show ((0:Nat):Int)=0 from rfl]
     go_wp2
     go_ret
     exact ⟨l,_,rfl,by
      have h:=HR.out
      rw [List.replicate_zero,List.append_nil] at h
      unfold nmF
      rw [EK.out,EM.out,if_pos (by decide),h]
      rfl,by omega,by omega,D4.out,U4.out⟩
    ·have tj : decide ((0 : Int) < (j : Int)) = true := decide_eq_true (by omega)
     have tj':0 < j:=by omega
     have ad:∀ W:World,(Op.stringOp .add (ByteArray.mk ⟨l⟩) (ByteArray.mk #[113])).run Tryz.prog W = .ok (.string ⟨⟨l ++ [113]⟩⟩) W:=fun W=>tx_add W l [113] (by simp;omega)
     have sj:IntKind.i64.wrap ((j:Int) - 1)=((j - 1:Nat):Int):=by rw [IntKind.wrap_i64];omega
     have sj':wrap64 ((j:Int) - 1)=((j - 1:Nat):Int):=by unfold wrap64;omega
     have HR2:Hid ((l ++ [113]) ++ List.replicate (j - 1) 113=List.replicate (62+m) 113):=by
      have h:=HR.out
      rw [show j=(j - 1)+1 by omega,List.replicate_succ] at h
      show _=_
      rw [List.append_assoc]
      exact h
     clear HR
     go_wp2
     go_roundw
     case rel=>exact ⟨by simp,l ++ [113],j - 1,rfl,by first | rfl | go_num,by simp;omega,HR2⟩
     case measure=>simp [intOf];omega
  ·have e1 : ((k : Int) == 1) = false := by simp; omega
   go_wp2
   go_ret
   exact ⟨x,_,rfl,by unfold nmF;rw [EK.out,EX.out,if_neg (by omega),if_neg (by omega)],by omega,by omega,D3.out,U3.out⟩
set_option maxHeartbeats 2000000 in
theorem l1DrawBytesM_any (w : World) (s g : Nat) (a : Option Addr) (c : Nat) (xs : List Int) (t : Int) (n : Nat) (hs : Src w s a xs.length c t) (hr : Rd w g a .u8 xs) (hne : 0 < xs.length → g ≠ s) (hb : Byt xs) (hl : xs.length ≤ 4194304)
  (t0:0≤t) (t1:t+(n:Int)≤1048576) :
  Calls Tryz.prog 58 #[.pointer (some ⟨s,0,none⟩),.int .i64 n] w fun e w'=>∃ v,e = .returned v∧Byt (dbF xs t n)∧RowB w' w.heap.size v (dbF xs t n)∧Src w' s a xs.length c (t+(n:Int))∧But s w w':=by
 obtain ⟨i0,hi,hz0,hz1,hz2⟩:=info_parts Tryz.info5
 have hown0:(w.alloc (.cells #[] 5)).ownsRow w.heap.size 5 1 (.slice (some ⟨w.heap.size,0,none⟩) 0 0) 0 []:=World.ownsRow_lit w #[] 0 (Nat.le_refl _) (by unfold maxLen;omega) (by simp)
 have hal:Below w.heap.size w (w.alloc (.cells #[] 5)):=(Below.refl _ _).alloc (Nat.le_refl _) _
 have hsl:=hs.lt
 go_enter Tryz.func58,Tryz.ntmps58
 go_wp2
 go_loopw [5,6] (fun v i wr=>∃ (k:Nat) (ys:List Int),k≤n∧i = .int .i64 k∧Hid (ys=dbF xs t k)∧Hid (ys.length=k)∧Byt ys∧wr.ownsRow w.heap.size 5 1 v k (ys.map (Value.int .u8))∧Src wr s a xs.length c (t+(k:Int))∧But s w wr) (fun _ i _=>n - (intOf i).toNat)
 case atStart=>exact ⟨0,[],Nat.zero_le _,rfl,rfl,rfl,byt_nil,hown0,by simpa using hs.up hal,But.ofBelow hal⟩
 case round =>
  obtain ⟨k,ys,hk,rfl,hyd,hyl,hyb,hown,hS,hN⟩:=hrel
  have hr':=hr.but hN hne
  by_cases hlt:k < n
  ·have hob := hown.lt
   go_wp2_with fail
   refine (l1NextM_any wr s g a c xs (t+(k:Int)) 256 hS hr' hne hb hl (by omega) (by omega) (by decide) (by decide)).mono ?_
   rintro e w1 ⟨rfl,⟨r0,r1⟩,S1,O1⟩
   obtain ⟨r,hr0⟩:∃ r,r=nxF xs (t+(k:Int)) 256:=⟨_,rfl⟩
   have HD:Hid (ys ++ [r]=dbF xs t (k+1)):=by show _=_;rw [dbF,← hyd.out,← hr0]
   rw [← hr0] at r0 r1 ⊢
   clear hr0 hyd
   have N1:=hN.only O1
   have hown1:=hown.kept O1.grown (by
    cases hv:Value.ownBlock _ with
    | none=>exact .inl rfl
    | some q=>exact .inr (fun e=>by have:=(hob q hv).1;simp at e;omega))
   have m1:r % 256=r:=by omega
   have sz:=N1.size
   clear hown hS hN O1 hr'
   go_wp2_with (at_builtin;refine wpList_append_own _ rfl _ _ 22 rfl w.heap.size 5 i0 (.int .u8 0) 1 1 Tryz.underlying22 hi hz0 hz1 hz2 rfl (by decide) _ k (ys.map (Value.int .u8)) rfl (hown1.alloc _) ⟨w1.heap.size,0,none⟩ 1 1 [.int .u8 r] rfl rfl ?c1 ?c2 ?c3 ?c4 ?c5 ?_)
   case c1 =>
    intro j u hj
    match j,hj with
    | 0,hj=>simp at hj;subst hj;simp [Addr.add]
   case c2=>intro u hu;simp at hu;subst hu;rfl
   case c3=>unfold maxLen;omega
   case c4=>omega
   case c5=>simp;omega
   ·intro v' w2 hown2 hgrow _
    have nA:But s w (w1.alloc (.cells #[.int .u8 r] 5)):=N1.trans (But.ofBelow ((Below.refl _ _).alloc (Nat.le_refl _) _))
    have N2:=nA.grown hgrow (fun i hi=>(hob i hi).1)
    have S2:Src w2 s a xs.length c (t+((k+1:Nat):Int)):=by
     have:=(S1.up ((Below.refl _ _).alloc (Nat.le_refl _) (.cells #[.int .u8 r] 5))).of_block (hgrow.block s (by simp;omega) (fun e=>by have:=(hob s e.symm).1;omega))
     rw [show t+((k+1:Nat):Int)=t+(k:Int)+1 by omega]
     exact this
    have hown3:w2.ownsRow w.heap.size 5 1 v' (k+1) ((ys ++ [r]).map (Value.int .u8)):=by simpa using hown2
    have hl3:Hid ((ys ++ [r]).length=k+1):=by show _=_;have:=hyl.out;simp;omega
    have hb3:=byt_snoc hyb r r0 r1
    clear hown1 hown2 hgrow N1 S1 nA hob
    go_wp2
    go_roundw
    case rel=>exact ⟨k+1,ys ++ [r],by omega,by go_num,HD,hl3,hb3,hown3,S2,N2⟩
    case measure=>simp [intOf];omega
  ·obtain rfl : k = n := by omega
   have hown':=hown
   rw [← hyl.out] at hown'
   clear hown
   go_wp2
   go_ret
   have hyd':=hyd.out
   rw [hyd'] at hyb hown'
   exact ⟨_,rfl,hyb,hown',hS,hN⟩
theorem str_oneV (y:Nat) (hy:(y:Int) < 256):∃ b:UInt8,b=UInt8.ofNat y∧str [IntKind.u8.wrap (y:Int)]=ByteArray.mk ⟨[b]⟩:=by
 have e:IntKind.u8.wrap (y:Int)=(y:Int):=by rw [IntKind.wrap_u8];omega
 rw [e]
 exact ⟨UInt8.ofNat y,rfl,rfl⟩
set_option maxRecDepth 100000 in
set_option maxHeartbeats 8000000 in
theorem drawAny_M {w : World} {s g : Nat} {a : Option Addr} {c : Nat} {xs : List Int} {t : Int} (d : Drm w s g a c xs t) (t1 : t ≤ 1000000) :
    Calls Tryz.prog 59 #[.pointer (some ⟨s,0,none⟩)] w fun e w'=>∃ (l:List UInt8) (u:Int),e = .returned (.string ⟨⟨l⟩⟩)∧anF xs t=(l,u)∧l.length≤200∧u≤t+6∧Drm w' s g a c xs u∧But s w w':=by
  have D0:=hide d
  clear d
  go_enter Tryz.func59,Tryz.ntmps59
  go_wp2_with fail
  refine (drawName_M D0.out (by omega)).mono ?_
  rintro e w1 ⟨x,u1,rfl,ex,hx,hu,d1,b1⟩
  have EX:=hide ex
  clear ex
  have D1:=hide d1
  have U1:=hide b1
  have sx:=tx_size x
  clear d1 b1 D0
  go_wp2_with fail
  refine (next_M D1.out (by omega) (by omega) (by omega)).mono ?_
  rintro e w2 ⟨k,rfl,ek,hk,d2,b2⟩
  have EA:Hid (anF xs t=(if (k:Int)=0 then (x ++ [46],u1+1) else if (k:Int)=1 then (45 :: x,u1+1) else if (k:Int)=2 then ([97,46,46,98],u1+1) else if (k:Int)=3 then ([],u1+1) else if (k:Int)=4 then (65 :: x,u1+1) else if (k:Int)=5 then (grL x ++ List.replicate (nxF xs (u1+1) 12).toNat 104,u1+1+1) else if (k:Int)=6 then (x.take (nxF xs (u1+1) ((x.length:Int)+1)).toNat ++ [UInt8.ofNat (nxF xs (u1+1+1) 256).toNat] ++ x.drop (nxF xs (u1+1) ((x.length:Int)+1)).toNat,u1+1+1+1) else (x,u1+1))):=by
    show _=_
    unfold anF
    rw [EX.out]
    show (if nxF xs u1 12=0 then _ else _)=_
    rw [ek]
  clear ek EX
  have D2:=hide d2
  have U2:=hide (U1.out.trans b2)
  clear d2 b2 D1 U1
  have hk':k=0∨k=1∨k=2∨k=3∨k=4∨k=5∨k=6∨(k≠0∧k≠1∧k≠2∧k≠3∧k≠4∧k≠5∧k≠6):=by omega
  clear hk
  rcases hk' with rfl | rfl | rfl | rfl | rfl | rfl | rfl | ⟨q0,q1,q2,q3,q4,q5,q6⟩
  · have ad : ∀ W : World, (Op.stringOp .add (ByteArray.mk ⟨x⟩) (ByteArray.mk #[46])).run Tryz.prog W = .ok (.string ⟨⟨x ++ [46]⟩⟩) W := fun W => tx_add W x [46] (by simp; omega)
    rw [show ((0:Nat):Int)=0 from rfl]
    go_wp2
    go_ret
    exact ⟨_,_,rfl,EA.out.trans (by simp),by simp;omega,by omega,D2.out,U2.out⟩
  · have ad : ∀ W : World, (Op.stringOp .add (ByteArray.mk #[45]) (ByteArray.mk ⟨x⟩)).run Tryz.prog W = .ok (.string ⟨⟨45 :: x⟩⟩) W := fun W => tx_add W [45] x (by simp; omega)
    rw [show ((1:Nat):Int)=1 from rfl]
    go_wp2
    go_ret
    exact ⟨_,_,rfl,EA.out.trans (by simp),by simp;omega,by omega,D2.out,U2.out⟩
  · rw [show ((2 : Nat) : Int) = 2 from rfl]
    go_wp2
    go_ret
    exact ⟨[97,46,46,98],_,rfl,EA.out.trans (by simp),by simp,by omega,D2.out,U2.out⟩
  · rw [show ((3 : Nat) : Int) = 3 from rfl]
    go_wp2
    go_ret
    exact ⟨[],_,rfl,EA.out.trans (by simp),by simp,by omega,D2.out,U2.out⟩
  · have ad : ∀ W : World, (Op.stringOp .add (ByteArray.mk #[65]) (ByteArray.mk ⟨x⟩)).run Tryz.prog W = .ok (.string ⟨⟨65 :: x⟩⟩) W := fun W => tx_add W [65] x (by simp; omega)
    rw [show ((4:Nat):Int)=4 from rfl]
    go_wp2
    go_ret
    exact ⟨_,_,rfl,EA.out.trans (by simp),by simp;omega,by omega,D2.out,U2.out⟩
  · rw [show ((5 : Nat) : Int) = 5 from rfl]
    go_wp2
    go_loopw [3] (fun v wr=>wr=w2∧∃ (l:List UInt8),v = .string ⟨⟨l⟩⟩∧l.length≤127∧Hid (grL l=grL x)) (fun v _=>128 - (match v with | .string b=>b.size | _=>0))
    case atStart=>exact ⟨rfl,x,rfl,by omega,rfl⟩
    case round =>
      obtain ⟨e1,l,rfl,hl,HG⟩:=hrel
      subst e1
      have sl:=tx_size l
      by_cases h:l.length < 120
      · have tl : decide ((l.length : Int) < 120) = true := decide_eq_true (by omega)
        have ad:∀ W:World,(Op.stringOp .add (ByteArray.mk ⟨l⟩) (ByteArray.mk #[46,97,98,99,100,101,102,103])).run Tryz.prog W = .ok (.string ⟨⟨l ++ [46,97,98,99,100,101,102,103]⟩⟩) W:=fun W=>tx_add W l [46,97,98,99,100,101,102,103] (by simp;omega)
        have H:=hide h
        have HG2:Hid (grL (l ++ [46,97,98,99,100,101,102,103])=grL x):=(grL_step h).trans HG.out
        clear h HG
        go_wp2
        go_roundw
        case rel=>exact ⟨by simp,_,rfl,by have:=H.out;simp;omega,HG2⟩
        case measure =>
          have:=H.out
          show 128 - (l ++ [46,97,98,99,100,101,102,103]).length < 128 - l.length
          simp
          omega
      · have tl : decide ((l.length : Int) < 120) = false := decide_eq_false (by omega)
        have HL:Hid (grL x=l):=HG.out.symm.trans (grL_end h)
        clear h HG
        go_wp2_with fail
        refine (next_M D2.out (by omega) (by omega) (by omega)).mono ?_
        rintro e w3 ⟨m,rfl,em,hm,d3,b3⟩
        have EM:Hid (anF xs t=(l ++ List.replicate m 104,u1+1+1)):=EA.out.trans (by rw [HL.out,em];simp)
        obtain ⟨l0,hl0⟩:∃ l0,l0=l:=⟨_,rfl⟩
        have HL0:=hide hl0
        rw [← hl0] at EM
        clear em EA HL hl0
        have D3:=hide d3
        have U3:=hide (U2.out.trans b3)
        clear d3 b3 D2 U2
        go_wp2
        go_loopw [3,5] (fun v i wr=>wr=w3∧∃ (l:List UInt8) (j:Nat),v = .string ⟨⟨l⟩⟩∧i = .int .i64 j∧l.length+j≤150∧Hid (l ++ List.replicate j 104=l0 ++ List.replicate m 104)) (fun _ i _=>(intOf i).toNat)
        case atStart=>exact ⟨rfl,l,m,rfl,rfl,by omega,by show _=_;rw [HL0.out]⟩
        case round =>
          obtain ⟨e1,l,j,rfl,rfl,hl,HR⟩:=hrel
          subst e1
          by_cases hj:j=0
          · subst hj
            rw [show ((0:Nat):Int)=0 from rfl]
            go_wp2
            go_ret
            exact ⟨l,_,rfl,by
              have h:=HR.out
              rw [List.replicate_zero,List.append_nil] at h
              rw [h]
              exact EM.out,by omega,by omega,D3.out,U3.out⟩
          · have tj : decide ((0 : Int) < (j : Int)) = true := decide_eq_true (by omega)
            have tj':0 < j:=by omega
            have ad:∀ W:World,(Op.stringOp .add (ByteArray.mk ⟨l⟩) (ByteArray.mk #[104])).run Tryz.prog W = .ok (.string ⟨⟨l ++ [104]⟩⟩) W:=fun W=>tx_add W l [104] (by simp;omega)
            have sj:IntKind.i64.wrap ((j:Int) - 1)=((j - 1:Nat):Int):=by rw [IntKind.wrap_i64];omega
            have sj':wrap64 ((j:Int) - 1)=((j - 1:Nat):Int):=by unfold wrap64;omega
            have HR2:Hid ((l ++ [104]) ++ List.replicate (j - 1) 104=l0 ++ List.replicate m 104):=by
              have h:=HR.out
              rw [show j=(j - 1)+1 by omega,List.replicate_succ] at h
              show _=_
              rw [List.append_assoc]
              exact h
            clear HR
            go_wp2
            go_roundw
            case rel=>exact ⟨by simp,l ++ [104],j - 1,rfl,by first | rfl | go_num,by simp;omega,HR2⟩
            case measure=>simp [intOf];omega
  · rw [show ((6 : Nat) : Int) = 6 from rfl]
    have w6:IntKind.i64.wrap ((x.length:Int)+1)=(x.length:Int)+1:=by rw [IntKind.wrap_i64];omega
    go_wp2_with fail
    refine (next_M D2.out (by omega) (by omega) (by omega)).mono ?_
    rintro e w3 ⟨m,rfl,em,hm,d3,b3⟩
    have EM:Hid (anF xs t=(x.take m ++ [UInt8.ofNat (nxF xs (u1+1+1) 256).toNat] ++ x.drop m,u1+1+1+1)):=EA.out.trans (by rw [em];simp)
    clear em EA
    have D3:=hide d3
    have U3:=hide (U2.out.trans b3)
    clear d3 b3 D2 U2
    have hm':m≤x.length:=by omega
    have x1:(ByteArray.mk ⟨x⟩).extract 0 m=ByteArray.mk ⟨x.take m⟩:=by
      have:=ByteArray.extract_mk x 0 m
      simpa using this
    have x2:(ByteArray.mk ⟨x⟩).extract m x.length=ByteArray.mk ⟨x.drop m⟩:=by
      have:=ByteArray.extract_mk x m x.length
      rw [List.take_of_length_le (by rw [List.length_drop];omega)] at this
      exact this
    have t2:(m:Int)≤(x.length:Int):=by omega
    have NX:=hide (fun W (h:Below w3.heap.size w3 W)=>next_M (n:=256) (D3.out.up h) (by omega) (by omega) (by omega))
    have nd:Below w3.heap.size w3 w3.drew:=(Below.refl _ _).drew
    have UU:=hide (fun W (h:Below w3.heap.size w3 W)=>U3.out.trans (But.ofBelow (g:=s) h))
    have KC:Hid (∀ (W:World) (y:Nat),(y:Int) < 256→∃ b:UInt8,b=UInt8.ofNat y∧(convert 22 9 (.slice (some ⟨W.heap.size,0,none⟩) 1 1)).run Tryz.prog (W.alloc (.cells #[.int .u8 (IntKind.u8.wrap (y:Int))] 5)) = .ok (.string ⟨⟨[b]⟩⟩) (W.alloc (.cells #[.int .u8 (IntKind.u8.wrap (y:Int))] 5))∧(∀ W:World,(Op.stringOp .add (ByteArray.mk ⟨x.take m⟩) (ByteArray.mk ⟨[b]⟩)).run Tryz.prog W = .ok (.string ⟨⟨x.take m ++ [b]⟩⟩) W)∧(∀ W:World,(Op.stringOp .add (ByteArray.mk ⟨x.take m ++ [b]⟩) (ByteArray.mk ⟨x.drop m⟩)).run Tryz.prog W = .ok (.string ⟨⟨x.take m ++ [b] ++ x.drop m⟩⟩) W)):=by
      intro W y hy0
      obtain ⟨b,hb0,hb⟩:=str_oneV y hy0
      have cv:=conv_run (W.alloc (.cells #[.int .u8 (IntKind.u8.wrap (y:Int))] 5)) W.heap.size (some ⟨W.heap.size,0,none⟩) 1 [IntKind.u8.wrap (y:Int)] (fun _=>⟨0,rfl,fun i hi=>by
        obtain rfl:i=0:=by
          simp at hi
          omega
        exact cell_one_new W (.int .u8 (IntKind.u8.wrap (y:Int))) 5 0 _ rfl⟩)
      rw [hb] at cv
      exact ⟨b,hb0,cv,fun W=>tx_add W (x.take m) [b] (by simp;omega),fun W=>tx_add W (x.take m ++ [b]) (x.drop m) (by simp;omega)⟩
    go_wp2
    go_region_with (go_at_call 29;refine ((unhide NX) _ nd).mono ?_;rintro e w4 ⟨y,rfl,ey,hy,d4,b4⟩;obtain ⟨b,eb,cv,ad1,ad2⟩:=(unhide KC) w4 y hy;(have EB1:=hide eb);(have EY1:=hide ey);clear eb ey)
    have na:Below w4.heap.size w4 (w4.alloc (.cells #[.int .u8 (IntKind.u8.wrap (y:Int))] 5)):=(Below.refl _ _).alloc (Nat.le_refl _) _
    have D5:=hide (d4.up na)
    have U5:=hide (((UU.out w3.drew nd).trans b4).trans (But.ofBelow na))
    have EZ:Hid (anF xs t=(x.take m ++ [b] ++ x.drop m,u1+1+1+1)):=by
      have h:=EM.out
      rw [EY1.out] at h
      rw [EB1.out]
      exact h
    clear na d4 b4 cv ad1 ad2 EM EY1 EB1
    generalize w4.alloc (.cells #[.int .u8 (IntKind.u8.wrap (y:Int))] 5)=w5 at *
    go_wp2
    go_ret
    exact ⟨x.take m ++ [b] ++ x.drop m,_,by simp,EZ.out,by simp;omega,by omega,D5.out,U5.out⟩
  · have e0 : ((k : Int) == 0) = false := by simp; omega
    have e1:((k:Int) == 1)=false:=by simp;omega
    have e2:((k:Int) == 2)=false:=by simp;omega
    have e3:((k:Int) == 3)=false:=by simp;omega
    have e4:((k:Int) == 4)=false:=by simp;omega
    have e5:((k:Int) == 5)=false:=by simp;omega
    have e6:((k:Int) == 6)=false:=by simp;omega
    have EZ:Hid (anF xs t=(x,u1+1)):=by
      show _=_
      rw [EA.out,if_neg (by omega),if_neg (by omega),if_neg (by omega),if_neg (by omega),if_neg (by omega),if_neg (by omega),if_neg (by omega)]
    clear q0 q1 q2 q3 q4 q5 q6 EA
    go_wp2
    go_ret
    exact ⟨x,_,rfl,EZ.out,by omega,by omega,D2.out,U2.out⟩
theorem byt_setC {ys:List Int} (h:Byt ys) (p:Nat) (x:Int) (h0:0≤x) (h1:x < 256):Byt (ys.set p x):=by
 intro i
 rw [List.getD_eq_getElem?_getD,List.getElem?_set]
 by_cases hp:p=i
 ·rw [if_pos hp]
  split
  ·exact ⟨h0,h1⟩
  ·exact ⟨by simp,by simp⟩
 ·rw [if_neg hp]
  have:=h i
  rw [List.getD_eq_getElem?_getD] at this
  exact this
set_option maxHeartbeats 2000000 in
theorem l11BytesV_any (w : World) (s g : Nat) (a : Option Addr) (c : Nat) (xs : List Int) (t : Int) (n : Nat) (hs : Src w s a xs.length c t) (hr : Rd w g a .u8 xs) (hne : 0 < xs.length → g ≠ s) (hb : Byt xs) (hl : xs.length ≤ 4194304)
  (t0:0≤t) (t1:t≤1000000) (hn:n≤7000) :
  Calls Tryz.prog 55 #[.pointer (some ⟨s,0,none⟩),.int .i64 (n:Int)] w fun e w'=>∃ v,e = .returned v∧Byt (byF xs t n)∧RowB w' w.heap.size v (byF xs t n)∧Src w' s a xs.length c (t+1)∧But s w w':=by
 obtain ⟨i0,hi,hz0,hz1,hz2⟩:=info_parts Tryz.info5
 have NX:=hide (l1NextM_any w s g a c xs t 256 hs hr hne hb hl t0 (by omega) (by omega) (by omega))
 have sl:=hs.lt
 clear hs hr hne
 go_enter Tryz.func55,Tryz.ntmps55
 go_wp2_with fail
 refine NX.out.mono ?_
 rintro e w0 ⟨rfl,⟨r0,r1⟩,S0,O0⟩
 obtain ⟨r,hr0⟩:∃ r,r=nxF xs t 256:=⟨_,rfl⟩
 have EB:Hid (byF xs t n=l11G r n n):=by show _=_;unfold byF;rw [← hr0]
 rw [← hr0] at r0 r1 ⊢
 clear hr0
 have z0:=hide O0.size
 clear NX
 go_wp2_with (at_make;refine wpList_make_full _ rfl _ _ 22 rfl w0.heap.size 5 i0 (.int .u8 0) 1 Tryz.underlying22 hi hz0 hz1 .i64 .i64 _ _ n rfl rfl rfl rfl (by rw [hz2];omega) (by unfold maxLen;omega) (Nat.le_refl _) ?_;intro w1 hown hgrow)
 have hB0:=Blk.of_made hown
 have T0:=TyB.of_made hown
 have hN0:Below w0.heap.size w0 w1:=(Below.refl _ _).grown hgrow (Nat.le_refl _) (by simp)
 have bz:Byt (List.replicate n (0:Int)):=fun i=>by
  rw [List.getD_eq_getElem?_getD,List.getElem?_replicate]
  split <;> exact ⟨by simp,by simp⟩
 clear hown hgrow
 go_loopw [7] (fun i wr=>∃ (k:Nat) (ys:List Int),k≤n∧i = .int .i64 (k:Int)∧Hid (ys=l11G r n k)∧Hid (ys.length=n)∧Hid (Byt ys)∧Blk wr w0.heap.size .u8 ys∧TyB wr w0.heap.size∧Below w0.heap.size w0 wr) (fun i _=>n - (intOf i).toNat)
 case atStart=>exact ⟨0,List.replicate n 0,Nat.zero_le _,rfl,rfl,by show _=_;simp,bz,hB0,T0,hN0⟩
 case round =>
  clear hB0 T0 hN0 bz
  obtain ⟨k,ys,hk,rfl,yd,yl,yb,B,T,N⟩:=hrel
  by_cases hlt:k < n
  ·have k0 : (k : Int) < (n : Int) := by omega
   have k1:decide ((k:Int) < (n:Int))=true:=by simp;omega
   have kk:(k:Int)*(k:Int)≤49000000:=by
    have:(k:Int)≤7000:=by omega
    calc (k:Int)*(k:Int)≤7000*7000:=Int.mul_le_mul this this (by omega) (by omega)
     _=49000000:=by decide
   have kp:(0:Int)≤(k:Int)*(k:Int):=Int.mul_nonneg (by omega) (by omega)
   have hl:k < ys.length:=by rw [yl.out];exact hlt
   have hcy:=B.cell hl
   have hfy:=B.free k
   have YL:=yl
   have YB:=yb
   have YD:=yd
   clear yd
   have KN:=hide kk
   go_wp2
   go_roundw
   case rel =>
    refine ⟨k+1,_,by omega,by go_num,?_,?_,?_,B.store k _,T.set k _,N.setCell (Nat.le_refl _) _⟩
    ·show _ = _
     rw [l11G,← YD.out]
     rfl
    ·show _ = _
     rw [List.length_set]
     exact YL.out
    ·exact byt_setC YB.out k _ (by omega) (by omega)
   case measure=>simp [intOf];omega
  ·obtain rfl : k = n := by omega
   have k1:decide ((k:Int) < (k:Int))=false:=by simp
   have RB:=hide (RowB.of_tyb (B:=w.heap.size) B T (by have:=z0.out;omega) (by rw [yl.out];omega))
   rw [yl.out] at RB
   have BT:=hide ((But.ofOnly O0).trans (But.ofBelow N))
   have SR:=hide (S0.up N)
   have YB:=yb
   have YD:=yd
   rw [YD.out,← EB.out] at RB YB
   clear B T N yd yl
   go_wp2
   go_ret
   exact ⟨_,rfl,YB.out,RB.out,SR.out,BT.out⟩
theorem bytes_M {w:World} {s g:Nat} {a:Option Addr} {c:Nat} {xs:List Int} {t:Int} (d:Drm w s g a c xs t) (n:Nat) (t1:t≤1000000) (hn:n≤3000) :
  Calls Tryz.prog 55 #[.pointer (some ⟨s,0,none⟩),.int .i64 (n:Int)] w fun e w'=>∃ v,e = .returned v∧Byt (byF xs t n)∧RowB w' w.heap.size v (byF xs t n)∧Drm w' s g a c xs (t+1)∧But s w w':=by
 refine (l11BytesV_any w s g a c xs t n d.S d.R d.ne d.hb d.hl d.t0 t1 (Nat.le_trans hn (by decide))).mono ?_
 rintro e w' ⟨v,rfl,b,R,S,B⟩
 exact ⟨v,rfl,b,R,⟨S,d.R.but B d.ne,d.ne,d.hb,d.hl,by have:=d.t0;omega⟩,B⟩
theorem drawBytes_M {w:World} {s g:Nat} {a:Option Addr} {c:Nat} {xs:List Int} {t:Int} (d:Drm w s g a c xs t) (n:Nat) (t1:t+(n:Int)≤1048576) :
  Calls Tryz.prog 58 #[.pointer (some ⟨s,0,none⟩),.int .i64 (n:Int)] w fun e w'=>∃ v,e = .returned v∧Byt (dbF xs t n)∧RowB w' w.heap.size v (dbF xs t n)∧Drm w' s g a c xs (t+(n:Int))∧But s w w':=by
 refine (l1DrawBytesM_any w s g a c xs t n d.S d.R d.ne d.hb d.hl d.t0 t1).mono ?_
 rintro e w' ⟨v,rfl,b,R,S,B⟩
 exact ⟨v,rfl,b,R,⟨S,d.R.but B d.ne,d.ne,d.hb,d.hl,by have:=d.t0;omega⟩,B⟩
theorem byF_len (xs:List Int) (t:Int) (n:Nat):(byF xs t n).length=n:=l11G_len _ n n
end Go.Proofs.YtmmbkkfjiaoeiaaGreat
namespace Go.Proofs.YtmmbkkfjiaoeiaaGreat
open Go Go.RowKit
structure Oth (q:Nat) (w w':World):Prop where
 os:w'.os=w.os
 tape:w'.tape=w.tape
 output:w'.output=w.output
 size:w.heap.size≤w'.heap.size
 block:∀ k,k < w.heap.size→k≠q→w'.heap[k]?=w.heap[k]?
theorem Oth.refl (q:Nat) (w:World):Oth q w w:=⟨rfl,rfl,rfl,Nat.le_refl _,fun _ _ _=>rfl⟩
theorem Oth.trans {q:Nat} {a b c:World} (h:Oth q a b) (k:Oth q b c):Oth q a c :=
 ⟨k.os.trans h.os,k.tape.trans h.tape,k.output.trans h.output,Nat.le_trans h.size k.size,fun i hi hn=>(k.block i (Nat.lt_of_lt_of_le hi h.size) hn).trans (h.block i hi hn)⟩
theorem Oth.of {q:Nat} {w w':World} (h:Below w.heap.size w w'):Oth q w w':=⟨h.os,h.tape,h.output,h.size,fun k hk _=>h.block k hk⟩
theorem Oth.alloc {q:Nat} {a w:World} (h:Oth q a w) (o:Obj):Oth q a (w.alloc o):=h.trans (Oth.of ((Below.refl _ _).alloc (Nat.le_refl _) o))
theorem Oth.drew {q:Nat} {a w:World} (h:Oth q a w):Oth q a w.drew:=⟨h.os,h.tape,h.output,h.size,h.block⟩
theorem Oth.drews {q:Nat} {a w:World} (h:Oth q a w) (n:Nat):Oth q a (w.drewN n):=⟨h.os,h.tape,h.output,h.size,h.block⟩
theorem Oth.setCell {q:Nat} {a w:World} (h:Oth q a w) (i:Nat) (v:Value):Oth q a (w.setCell ⟨q,i,none⟩ v) :=
 h.trans ⟨rfl,rfl,rfl,by simp [World.setCell],fun k _ hk=>Below.heap_setCell _ _ _ _ hk⟩
theorem Oth.below {q B:Nat} {w w':World} (h:Oth q w w') (hq:B≤q) (hB:B≤w.heap.size):Below B w w':=⟨h.os,h.tape,h.output,h.size,fun k hk=>h.block k (by omega) (by omega)⟩
theorem RwC.oth {w w':World} {q r:Nat} {cs:List Value} {t:TypeId} (h:RwC w q cs t) (n:Oth r w w') (hne:q≠r):RwC w' q cs t:=(n.block q h.lt hne).trans h
section
variable (w : World) (q : Nat) (t : TypeId) (us : List Value) (u0 u1 u2 u3 u4 u5 u6 u7 u8 : Value) (k v ag ea : Int) (a2 a3 a5 a6 a9 a11 a12 : Option Addr) (n2 n3 n5 n6 n9 n11 n12 c2 c3 c5 c6 c9 c11 c12 : Nat) (ho : ByteArray) (rs : Bool)
set_option maxHeartbeats 400000 in
theorem firstTake_any (h:RwC w q (u0 :: u1 :: u2 :: us) t) :
  Calls Tryz.prog 106 #[.pointer (some ⟨q,0,none⟩),.agg #[.int .i64 k,.int .i64 v,.slice a2 n2 c2,.slice a3 n3 c3,.string ho,.slice a5 n5 c5,.slice a6 n6 c6,.int .i64 ag,.int .i64 ea,.slice a9 n9 c9,.bool rs,.slice a11 n11 c11,.slice a12 n12 c12]] w fun e w'=>e = .returned (.tuple #[])∧Oth q w w'∧RwC w' q (Value.int .i64 v :: Value.slice a2 n2 c2 :: Value.slice a3 n3 c3 :: us) t:=by
 have lt:=h.lt
 have nq:w.heap.size≠q:=by omega
 have qn:q≠w.heap.size:=by omega
 have h0:w.cell? ⟨q,0,none⟩=some u0:=h.cell 0
 have f0:=h.free 0
 have h1:w.cell? ⟨q,1,none⟩=some u1:=h.cell 1
 have f1:=h.free 1
 have h2:w.cell? ⟨q,2,none⟩=some u2:=h.cell 2
 have f2:=h.free 2
 have H:=hide h
 clear h
 go_enter Tryz.func106,Tryz.ntmps106
 go_wp2
 go_region
 go_end0
 refine ⟨rfl,?_,?_⟩
 ·repeat (with_reducible first | exact Oth.refl _ _ | apply Oth.drew | apply Oth.drews | apply Oth.alloc | apply Oth.setCell)
 ·repeat (with_reducible first | apply RwC.drew1 | apply RwC.drews | apply RwC.push)
  exact (((H.out.set 0 _).set 1 _).set 2 _)
set_option maxHeartbeats 400000 in
theorem ticketTake_any (h:RwC w q ([u0,u1,u2,u3]) t) :
  Calls Tryz.prog 120 #[.pointer (some ⟨q,0,none⟩),.agg #[.int .i64 k,.int .i64 v,.slice a2 n2 c2,.slice a3 n3 c3,.string ho,.slice a5 n5 c5,.slice a6 n6 c6,.int .i64 ag,.int .i64 ea,.slice a9 n9 c9,.bool rs,.slice a11 n11 c11,.slice a12 n12 c12]] w fun e w'=>e = .returned (.tuple #[])∧Oth q w w'∧RwC w' q ([.int .i64 ag,.int .i64 ea,.slice a2 n2 c2,.slice a6 n6 c6]) t:=by
 have lt:=h.lt
 have nq:w.heap.size≠q:=by omega
 have qn:q≠w.heap.size:=by omega
 have h0:w.cell? ⟨q,0,none⟩=some u0:=h.cell 0
 have f0:=h.free 0
 have h1:w.cell? ⟨q,1,none⟩=some u1:=h.cell 1
 have f1:=h.free 1
 have h2:w.cell? ⟨q,2,none⟩=some u2:=h.cell 2
 have f2:=h.free 2
 have h3:w.cell? ⟨q,3,none⟩=some u3:=h.cell 3
 have f3:=h.free 3
 have H:=hide h
 clear h
 go_enter Tryz.func120,Tryz.ntmps120
 go_wp2
 go_region
 go_end0
 refine ⟨rfl,?_,?_⟩
 ·repeat (with_reducible first | exact Oth.refl _ _ | apply Oth.drew | apply Oth.drews | apply Oth.alloc | apply Oth.setCell)
 ·repeat (with_reducible first | apply RwC.drew1 | apply RwC.drews | apply RwC.push)
  exact ((((H.out.set 0 _).set 1 _).set 2 _).set 3 _)
set_option maxHeartbeats 400000 in
theorem extrasTake_any (h:RwC w q ([u0,u1]) t) :
  Calls Tryz.prog 128 #[.pointer (some ⟨q,0,none⟩),.agg #[.int .i64 k,.int .i64 v,.slice a2 n2 c2,.slice a3 n3 c3,.string ho,.slice a5 n5 c5,.slice a6 n6 c6,.int .i64 ag,.int .i64 ea,.slice a9 n9 c9,.bool rs,.slice a11 n11 c11,.slice a12 n12 c12]] w fun e w'=>e = .returned (.tuple #[])∧Oth q w w'∧RwC w' q ([.slice a5 n5 c5,.int .i64 ea]) t:=by
 have lt:=h.lt
 have nq:w.heap.size≠q:=by omega
 have qn:q≠w.heap.size:=by omega
 have h0:w.cell? ⟨q,0,none⟩=some u0:=h.cell 0
 have f0:=h.free 0
 have h1:w.cell? ⟨q,1,none⟩=some u1:=h.cell 1
 have f1:=h.free 1
 have H:=hide h
 clear h
 go_enter Tryz.func128,Tryz.ntmps128
 go_wp2
 go_region
 go_end0
 refine ⟨rfl,?_,?_⟩
 ·repeat (with_reducible first | exact Oth.refl _ _ | apply Oth.drew | apply Oth.drews | apply Oth.alloc | apply Oth.setCell)
 ·repeat (with_reducible first | apply RwC.drew1 | apply RwC.drews | apply RwC.push)
  exact ((H.out.set 0 _).set 1 _)
set_option maxHeartbeats 400000 in
theorem certsTake_any (h:RwC w q ([u0]) t) :
  Calls Tryz.prog 132 #[.pointer (some ⟨q,0,none⟩),.agg #[.int .i64 k,.int .i64 v,.slice a2 n2 c2,.slice a3 n3 c3,.string ho,.slice a5 n5 c5,.slice a6 n6 c6,.int .i64 ag,.int .i64 ea,.slice a9 n9 c9,.bool rs,.slice a11 n11 c11,.slice a12 n12 c12]] w fun e w'=>e = .returned (.tuple #[])∧Oth q w w'∧RwC w' q ([.slice a11 n11 c11]) t:=by
 have lt:=h.lt
 have nq:w.heap.size≠q:=by omega
 have qn:q≠w.heap.size:=by omega
 have h0:w.cell? ⟨q,0,none⟩=some u0:=h.cell 0
 have f0:=h.free 0
 have H:=hide h
 clear h
 go_enter Tryz.func132,Tryz.ntmps132
 go_wp2
 go_end0
 refine ⟨rfl,?_,?_⟩
 ·repeat (with_reducible first | exact Oth.refl _ _ | apply Oth.drew | apply Oth.drews | apply Oth.alloc | apply Oth.setCell)
 ·repeat (with_reducible first | apply RwC.drew1 | apply RwC.drews | apply RwC.push)
  exact (H.out.set 0 _)
set_option maxHeartbeats 400000 in
theorem proofTake_any (h:RwC w q ([u0]) t) :
  Calls Tryz.prog 139 #[.pointer (some ⟨q,0,none⟩),.agg #[.int .i64 k,.int .i64 v,.slice a2 n2 c2,.slice a3 n3 c3,.string ho,.slice a5 n5 c5,.slice a6 n6 c6,.int .i64 ag,.int .i64 ea,.slice a9 n9 c9,.bool rs,.slice a11 n11 c11,.slice a12 n12 c12]] w fun e w'=>e = .returned (.tuple #[])∧Oth q w w'∧RwC w' q ([.slice a12 n12 c12]) t:=by
 have lt:=h.lt
 have nq:w.heap.size≠q:=by omega
 have qn:q≠w.heap.size:=by omega
 have h0:w.cell? ⟨q,0,none⟩=some u0:=h.cell 0
 have f0:=h.free 0
 have H:=hide h
 clear h
 go_enter Tryz.func139,Tryz.ntmps139
 go_wp2
 go_end0
 refine ⟨rfl,?_,?_⟩
 ·repeat (with_reducible first | exact Oth.refl _ _ | apply Oth.drew | apply Oth.drews | apply Oth.alloc | apply Oth.setCell)
 ·repeat (with_reducible first | apply RwC.drew1 | apply RwC.drews | apply RwC.push)
  exact (H.out.set 0 _)
set_option maxHeartbeats 400000 in
theorem finishedTake_any (h:RwC w q ([u0]) t) :
  Calls Tryz.prog 144 #[.pointer (some ⟨q,0,none⟩),.agg #[.int .i64 k,.int .i64 v,.slice a2 n2 c2,.slice a3 n3 c3,.string ho,.slice a5 n5 c5,.slice a6 n6 c6,.int .i64 ag,.int .i64 ea,.slice a9 n9 c9,.bool rs,.slice a11 n11 c11,.slice a12 n12 c12]] w fun e w'=>e = .returned (.tuple #[])∧Oth q w w'∧RwC w' q ([.slice a12 n12 c12]) t:=by
 have lt:=h.lt
 have nq:w.heap.size≠q:=by omega
 have qn:q≠w.heap.size:=by omega
 have h0:w.cell? ⟨q,0,none⟩=some u0:=h.cell 0
 have f0:=h.free 0
 have H:=hide h
 clear h
 go_enter Tryz.func144,Tryz.ntmps144
 go_wp2
 go_end0
 refine ⟨rfl,?_,?_⟩
 ·repeat (with_reducible first | exact Oth.refl _ _ | apply Oth.drew | apply Oth.drews | apply Oth.alloc | apply Oth.setCell)
 ·repeat (with_reducible first | apply RwC.drew1 | apply RwC.drews | apply RwC.push)
  exact (H.out.set 0 _)
set_option maxHeartbeats 400000 in
theorem updateTake_any (h:RwC w q ([u0]) t) :
  Calls Tryz.prog 148 #[.pointer (some ⟨q,0,none⟩),.agg #[.int .i64 k,.int .i64 v,.slice a2 n2 c2,.slice a3 n3 c3,.string ho,.slice a5 n5 c5,.slice a6 n6 c6,.int .i64 ag,.int .i64 ea,.slice a9 n9 c9,.bool rs,.slice a11 n11 c11,.slice a12 n12 c12]] w fun e w'=>e = .returned (.tuple #[])∧Oth q w w'∧RwC w' q ([.int .i64 ea]) t:=by
 have lt:=h.lt
 have nq:w.heap.size≠q:=by omega
 have qn:q≠w.heap.size:=by omega
 have h0:w.cell? ⟨q,0,none⟩=some u0:=h.cell 0
 have f0:=h.free 0
 have H:=hide h
 clear h
 go_enter Tryz.func148,Tryz.ntmps148
 go_wp2
 go_end0
 refine ⟨rfl,?_,?_⟩
 ·repeat (with_reducible first | exact Oth.refl _ _ | apply Oth.drew | apply Oth.drews | apply Oth.alloc | apply Oth.setCell)
 ·repeat (with_reducible first | apply RwC.drew1 | apply RwC.drews | apply RwC.push)
  exact (H.out.set 0 _)
theorem endTake_any (x:Value) :
  Calls Tryz.prog 124 #[x,.agg #[.int .i64 k,.int .i64 v,.slice a2 n2 c2,.slice a3 n3 c3,.string ho,.slice a5 n5 c5,.slice a6 n6 c6,.int .i64 ag,.int .i64 ea,.slice a9 n9 c9,.bool rs,.slice a11 n11 c11,.slice a12 n12 c12]] w fun e w'=>e = .returned (.tuple #[])∧Below w.heap.size w w':=by
 go_enter Tryz.func124,Tryz.ntmps124
 go_wp2
 go_end0
 exact ⟨rfl,(Below.refl _ _).alloc (Nat.le_refl _) _⟩
end
end Go.Proofs.YtmmbkkfjiaoeiaaGreat
namespace Go.Proofs.YtmmbkkfjiaoeiaaGreat
open Go Go.RowKit
section
variable (w : World) (q : Nat) (t : TypeId) (us : List Value) (u0 u1 u2 u3 u4 u5 u6 u7 u8 : Value) (k v ag ea : Int) (a2 a3 a5 a6 a9 a11 a12 : Option Addr) (n2 n3 n5 n6 n9 n11 n12 c2 c3 c5 c6 c9 c11 c12 : Nat) (ho : ByteArray) (rs : Bool)
set_option maxHeartbeats 1000000 in
theorem answerTake_any (h:RwC w q ([u0,u1,u2,u3]) t) :
  Calls Tryz.prog 116 #[.pointer (some ⟨q,0,none⟩),.agg #[.int .i64 k,.int .i64 v,.slice a2 n2 c2,.slice a3 n3 c3,.string ho,.slice a5 n5 c5,.slice a6 n6 c6,.int .i64 ag,.int .i64 ea,.slice a9 n9 c9,.bool rs,.slice a11 n11 c11,.slice a12 n12 c12]] w fun e w'=>e = .returned (.tuple #[])∧Oth q w w'∧RwC w' q ([.int .i64 v,.slice a2 n2 c2,.slice a3 n3 c3,.bool rs]) t:=by
 have lt:=h.lt
 have nq:w.heap.size≠q:=by omega
 have qn:q≠w.heap.size:=by omega
 have HC:=hide (fun W (H:RwC W q ([u0,u1,u2,u3]) t)=>firstTake_any W q t [u3] u0 u1 u2 k v ag ea a2 a3 a5 a6 a9 a11 a12 n2 n3 n5 n6 n9 n11 n12 c2 c3 c5 c6 c9 c11 c12 ho rs H)
 have n1:=hide (show RwC (w.alloc (.cells #[.int .i64 k,.int .i64 v,.slice a2 n2 c2,.slice a3 n3 c3,.string ho,.slice a5 n5 c5,.slice a6 n6 c6,.int .i64 ag,.int .i64 ea,.slice a9 n9 c9,.bool rs,.slice a11 n11 c11,.slice a12 n12 c12] 26)) w.heap.size _ _ from RwC.new w _ 26)
 have H:=hide h
 clear h
 go_enter Tryz.func116,Tryz.ntmps116
 go_wp2
 go_region_with (go_at_call 106;refine ((unhide HC) _ ?_).mono ?_;exact (H.out.push _);rintro e w2 ⟨rfl,K,R⟩)
 have B:=hide ((n1.out.drew1).oth K nq)
 have b10:w2.cell? ⟨w.heap.size,10,none⟩=some (Value.bool rs):=B.out.cell 10
 have h3:w2.cell? ⟨q,3,none⟩=some u3:=R.cell 3
 have f3:=R.free 3
 have R2:=hide R
 have K2:=hide K
 clear R K
 go_wp2
 go_end0
 refine ⟨rfl,?_,?_⟩
 ·repeat (with_reducible first | apply Oth.drew | apply Oth.drews | apply Oth.setCell)
  exact ((Oth.refl q w).alloc _).drew.trans K2.out
 ·repeat (with_reducible first | apply RwC.drew1 | apply RwC.drews)
  exact (R2.out.set 3 _)
set_option maxHeartbeats 1000000 in
theorem helloTake_any (h:RwC w q ([u0,u1,u2,u3,u4,u5,u6,u7,u8]) t) :
  Calls Tryz.prog 90 #[.pointer (some ⟨q,0,none⟩),.agg #[.int .i64 k,.int .i64 v,.slice a2 n2 c2,.slice a3 n3 c3,.string ho,.slice a5 n5 c5,.slice a6 n6 c6,.int .i64 ag,.int .i64 ea,.slice a9 n9 c9,.bool rs,.slice a11 n11 c11,.slice a12 n12 c12]] w fun e w'=>e = .returned (.tuple #[])∧Oth q w w'∧RwC w' q ([.int .i64 v,.slice a2 n2 c2,.slice a3 n3 c3,.string ho,.slice a5 n5 c5,.slice a6 n6 c6,.int .i64 ag,.int .i64 ea,.slice a9 n9 c9]) t:=by
 have lt:=h.lt
 have nq:w.heap.size≠q:=by omega
 have qn:q≠w.heap.size:=by omega
 have HC:=hide (fun W (H:RwC W q ([u0,u1,u2,u3,u4,u5,u6,u7,u8]) t)=>firstTake_any W q t [u3,u4,u5,u6,u7,u8] u0 u1 u2 k v ag ea a2 a3 a5 a6 a9 a11 a12 n2 n3 n5 n6 n9 n11 n12 c2 c3 c5 c6 c9 c11 c12 ho rs H)
 have n1:=hide (show RwC (w.alloc (.cells #[.int .i64 k,.int .i64 v,.slice a2 n2 c2,.slice a3 n3 c3,.string ho,.slice a5 n5 c5,.slice a6 n6 c6,.int .i64 ag,.int .i64 ea,.slice a9 n9 c9,.bool rs,.slice a11 n11 c11,.slice a12 n12 c12] 26)) w.heap.size _ _ from RwC.new w _ 26)
 have H:=hide h
 clear h
 go_enter Tryz.func90,Tryz.ntmps90
 go_wp2
 go_region_with (go_at_call 106;refine ((unhide HC) _ ?_).mono ?_;exact (H.out.push _);rintro e w2 ⟨rfl,K,R⟩)
 have B:=hide ((n1.out.drew1).oth K nq)
 have b4:w2.cell? ⟨w.heap.size,4,none⟩=some (Value.string ho):=B.out.cell 4
 have b5:w2.cell? ⟨w.heap.size,5,none⟩=some (Value.slice a5 n5 c5):=B.out.cell 5
 have b6:w2.cell? ⟨w.heap.size,6,none⟩=some (Value.slice a6 n6 c6):=B.out.cell 6
 have b7:w2.cell? ⟨w.heap.size,7,none⟩=some (Value.int .i64 ag):=B.out.cell 7
 have b8:w2.cell? ⟨w.heap.size,8,none⟩=some (Value.int .i64 ea):=B.out.cell 8
 have b9:w2.cell? ⟨w.heap.size,9,none⟩=some (Value.slice a9 n9 c9):=B.out.cell 9
 have h3:w2.cell? ⟨q,3,none⟩=some u3:=R.cell 3
 have f3:=R.free 3
 have h4:w2.cell? ⟨q,4,none⟩=some u4:=R.cell 4
 have f4:=R.free 4
 have h5:w2.cell? ⟨q,5,none⟩=some u5:=R.cell 5
 have f5:=R.free 5
 have h6:w2.cell? ⟨q,6,none⟩=some u6:=R.cell 6
 have f6:=R.free 6
 have h7:w2.cell? ⟨q,7,none⟩=some u7:=R.cell 7
 have f7:=R.free 7
 have h8:w2.cell? ⟨q,8,none⟩=some u8:=R.cell 8
 have f8:=R.free 8
 have R2:=hide R
 have K2:=hide K
 clear R K
 go_wp2
 go_region
 go_wp2
 go_region
 go_end0
 refine ⟨rfl,?_,?_⟩
 ·repeat (with_reducible first | apply Oth.drew | apply Oth.drews | apply Oth.setCell)
  exact ((Oth.refl q w).alloc _).drew.trans K2.out
 ·repeat (with_reducible first | apply RwC.drew1 | apply RwC.drews)
  exact ((((((R2.out.set 3 _).set 4 _).set 5 _).set 6 _).set 7 _).set 8 _)
end
end Go.Proofs.YtmmbkkfjiaoeiaaGreat
namespace Go.Proofs.YtmmbkkfjiaoeiaaGreat
open Go Go.RowKit
theorem iM:(Tryz.prog.info? 26).map (·.size)=some 13:=by kernel_rfl
theorem rowM:∃ d,Tryz.prog.underlying 26=some d∧d.isRow=true:=⟨_,Tryz.underlying26,rfl⟩
theorem results_cellM {P:Program} {fn:Func} {p:Tmp} {ty:TypeId} (h:fn.results = #[.cell p ty]) (tmps:Array Value) (w:World) (g:Nat) (cs:List Value) (d:TypeDesc)
  (hp:tmps.getD p undef = .pointer (some ⟨g,0,none⟩)) (hc:w.rangeAt g 0 cs) (hu:P.underlying ty=some d) (hd:d.isRow=true) (hi:(P.info? ty).map (·.size)=some cs.length) :
  (results fn tmps).run P w = .ok (.agg cs.toArray) w:=by
 have hp':tmps[p]?.getD undef = .pointer (some ⟨g,0,none⟩):=by simpa using hp
 simp [results,h,hp',asAddr,run_loadVar_mid w g 0 ty cs d hc hu hd hi]
theorem RwC.range {w:World} {q:Nat} {cs:List Value} {t:TypeId} (h:RwC w q cs t):w.rangeAt q 0 cs:=fun j v hj=>by
 rw [Nat.zero_add]
 exact (h.cell j).trans hj
section
variable (w : World) (q : Nat) (t : TypeId) (v ag ea : Int) (a2 a3 a5 a6 a9 a11 a12 : Option Addr) (n2 n3 n5 n6 n9 n11 n12 c2 c3 c5 c6 c9 c11 c12 : Nat) (ho : ByteArray) (rs : Bool)
set_option maxRecDepth 20000 in
set_option maxHeartbeats 1000000 in
theorem plainAnswer_any (h:RwC w q [.int .i64 v,.slice a2 n2 c2,.slice a3 n3 c3,.bool rs] t) :
  Calls Tryz.prog 36 #[.iface 77 (.pointer (some ⟨q,0,none⟩))] w fun e w'=>e = .returned (.agg #[.int .i64 2,.int .i64 v,.slice a2 n2 c2,.slice a3 n3 c3,.string ⟨#[]⟩,.slice none 0 0,.slice none 0 0,.int .i64 0,.int .i64 0,.slice none 0 0,.bool rs,.slice none 0 0,.slice none 0 0])∧Below w.heap.size w w':=by
 have lt:=h.lt
 have nq:w.heap.size≠q:=by omega
 have qn:q≠w.heap.size:=by omega
 have h0:w.cell? ⟨q,0,none⟩=some (Value.int .i64 v):=h.cell 0
 have h1:w.cell? ⟨q,1,none⟩=some (Value.slice a2 n2 c2):=h.cell 1
 have h2:w.cell? ⟨q,2,none⟩=some (Value.slice a3 n3 c3):=h.cell 2
 have h3:w.cell? ⟨q,3,none⟩=some (Value.bool rs):=h.cell 3
 have A_helloMessage:∀ (x:Value) (W:World),(Instr.typeAssert (.iface 77 x) 42 72 true).run Tryz.prog W = .ok (.tuple #[.pointer none,.bool false]) W:=fun _ _=>by kernel_rfl
 have A_answerMessage:∀ (x:Value) (W:World),(Instr.typeAssert (.iface 77 x) 42 77 true).run Tryz.prog W = .ok (.tuple #[x,.bool true]) W:=fun _ _=>by kernel_rfl
 clear h
 have RN:=hide (RwC.new w [.int .i64 2,.int .i64 v,.slice a2 n2 c2,.slice a3 n3 c3,.string ⟨#[]⟩,.slice none 0 0,.slice none 0 0,.int .i64 0,.int .i64 0,.slice none 0 0,.bool rs,.slice none 0 0,.slice none 0 0] 26)
 obtain ⟨d13,hd13,hrow13⟩:=rowM
 go_enter Tryz.func36,Tryz.ntmps36
 go_wp2
 go_region
 go_wp2
 exact bodyPost_ret (v := .agg #[.int .i64 2,.int .i64 v,.slice a2 n2 c2,.slice a3 n3 c3,.string ⟨#[]⟩,.slice none 0 0,.slice none 0 0,.int .i64 0,.int .i64 0,.slice none 0 0,.bool rs,.slice none 0 0,.slice none 0 0]) (results_cellM Tryz.results36 _ _ w.heap.size [.int .i64 2,.int .i64 v,.slice a2 n2 c2,.slice a3 n3 c3,.string ⟨#[]⟩,.slice none 0 0,.slice none 0 0,.int .i64 0,.int .i64 0,.slice none 0 0,.bool rs,.slice none 0 0,.slice none 0 0] d13 rfl (RN.out.drew1.range) hd13 hrow13 iM) rfl ⟨rfl,((Below.refl _ _).alloc (Nat.le_refl _) _).drew⟩
set_option maxRecDepth 20000 in
set_option maxHeartbeats 1000000 in
theorem plainTicket_any (h:RwC w q [.int .i64 ag,.int .i64 ea,.slice a2 n2 c2,.slice a6 n6 c6] t) :
  Calls Tryz.prog 36 #[.iface 80 (.pointer (some ⟨q,0,none⟩))] w fun e w'=>e = .returned (.agg #[.int .i64 4,.int .i64 0,.slice a2 n2 c2,.slice none 0 0,.string ⟨#[]⟩,.slice none 0 0,.slice a6 n6 c6,.int .i64 ag,.int .i64 ea,.slice none 0 0,.bool false,.slice none 0 0,.slice none 0 0])∧Below w.heap.size w w':=by
 have lt:=h.lt
 have nq:w.heap.size≠q:=by omega
 have qn:q≠w.heap.size:=by omega
 have h0:w.cell? ⟨q,0,none⟩=some (Value.int .i64 ag):=h.cell 0
 have h1:w.cell? ⟨q,1,none⟩=some (Value.int .i64 ea):=h.cell 1
 have h2:w.cell? ⟨q,2,none⟩=some (Value.slice a2 n2 c2):=h.cell 2
 have h3:w.cell? ⟨q,3,none⟩=some (Value.slice a6 n6 c6):=h.cell 3
 have A_helloMessage:∀ (x:Value) (W:World),(Instr.typeAssert (.iface 80 x) 42 72 true).run Tryz.prog W = .ok (.tuple #[.pointer none,.bool false]) W:=fun _ _=>by kernel_rfl
 have A_answerMessage:∀ (x:Value) (W:World),(Instr.typeAssert (.iface 80 x) 42 77 true).run Tryz.prog W = .ok (.tuple #[.pointer none,.bool false]) W:=fun _ _=>by kernel_rfl
 have A_ticketMessage:∀ (x:Value) (W:World),(Instr.typeAssert (.iface 80 x) 42 80 true).run Tryz.prog W = .ok (.tuple #[x,.bool true]) W:=fun _ _=>by kernel_rfl
 clear h
 have RN:=hide (RwC.new w [.int .i64 4,.int .i64 0,.slice a2 n2 c2,.slice none 0 0,.string ⟨#[]⟩,.slice none 0 0,.slice a6 n6 c6,.int .i64 ag,.int .i64 ea,.slice none 0 0,.bool false,.slice none 0 0,.slice none 0 0] 26)
 obtain ⟨d13,hd13,hrow13⟩:=rowM
 go_enter Tryz.func36,Tryz.ntmps36
 go_wp2
 go_region
 go_wp2
 exact bodyPost_ret (v := .agg #[.int .i64 4,.int .i64 0,.slice a2 n2 c2,.slice none 0 0,.string ⟨#[]⟩,.slice none 0 0,.slice a6 n6 c6,.int .i64 ag,.int .i64 ea,.slice none 0 0,.bool false,.slice none 0 0,.slice none 0 0]) (results_cellM Tryz.results36 _ _ w.heap.size [.int .i64 4,.int .i64 0,.slice a2 n2 c2,.slice none 0 0,.string ⟨#[]⟩,.slice none 0 0,.slice a6 n6 c6,.int .i64 ag,.int .i64 ea,.slice none 0 0,.bool false,.slice none 0 0,.slice none 0 0] d13 rfl (RN.out.drew1.range) hd13 hrow13 iM) rfl ⟨rfl,((Below.refl _ _).alloc (Nat.le_refl _) _).drew⟩
set_option maxRecDepth 20000 in
set_option maxHeartbeats 1000000 in
theorem plainEnd_any (x:Value) :
  Calls Tryz.prog 36 #[.iface 83 x] w fun e w'=>e = .returned (.agg #[.int .i64 5,.int .i64 0,.slice none 0 0,.slice none 0 0,.string ⟨#[]⟩,.slice none 0 0,.slice none 0 0,.int .i64 0,.int .i64 0,.slice none 0 0,.bool false,.slice none 0 0,.slice none 0 0])∧Below w.heap.size w w':=by
 have A_helloMessage:∀ (x:Value) (W:World),(Instr.typeAssert (.iface 83 x) 42 72 true).run Tryz.prog W = .ok (.tuple #[.pointer none,.bool false]) W:=fun _ _=>by kernel_rfl
 have A_answerMessage:∀ (x:Value) (W:World),(Instr.typeAssert (.iface 83 x) 42 77 true).run Tryz.prog W = .ok (.tuple #[.pointer none,.bool false]) W:=fun _ _=>by kernel_rfl
 have A_ticketMessage:∀ (x:Value) (W:World),(Instr.typeAssert (.iface 83 x) 42 80 true).run Tryz.prog W = .ok (.tuple #[.pointer none,.bool false]) W:=fun _ _=>by kernel_rfl
 have A_endOfEarlyMessage:∀ (x:Value) (W:World),(Instr.typeAssert (.iface 83 x) 42 83 true).run Tryz.prog W = .ok (.tuple #[x,.bool true]) W:=fun _ _=>by kernel_rfl
 have RN:=hide (RwC.new w [.int .i64 5,.int .i64 0,.slice none 0 0,.slice none 0 0,.string ⟨#[]⟩,.slice none 0 0,.slice none 0 0,.int .i64 0,.int .i64 0,.slice none 0 0,.bool false,.slice none 0 0,.slice none 0 0] 26)
 obtain ⟨d13,hd13,hrow13⟩:=rowM
 go_enter Tryz.func36,Tryz.ntmps36
 go_wp2
 exact bodyPost_ret (v := .agg #[.int .i64 5,.int .i64 0,.slice none 0 0,.slice none 0 0,.string ⟨#[]⟩,.slice none 0 0,.slice none 0 0,.int .i64 0,.int .i64 0,.slice none 0 0,.bool false,.slice none 0 0,.slice none 0 0]) (results_cellM Tryz.results36 _ _ w.heap.size [.int .i64 5,.int .i64 0,.slice none 0 0,.slice none 0 0,.string ⟨#[]⟩,.slice none 0 0,.slice none 0 0,.int .i64 0,.int .i64 0,.slice none 0 0,.bool false,.slice none 0 0,.slice none 0 0] d13 rfl (RN.out.range) hd13 hrow13 iM) rfl ⟨rfl,((Below.refl _ _).alloc (Nat.le_refl _) _)⟩
set_option maxRecDepth 20000 in
set_option maxHeartbeats 1000000 in
theorem plainExtras_any (h:RwC w q [.slice a5 n5 c5,.int .i64 ea] t) :
  Calls Tryz.prog 36 #[.iface 86 (.pointer (some ⟨q,0,none⟩))] w fun e w'=>e = .returned (.agg #[.int .i64 8,.int .i64 0,.slice none 0 0,.slice none 0 0,.string ⟨#[]⟩,.slice a5 n5 c5,.slice none 0 0,.int .i64 0,.int .i64 ea,.slice none 0 0,.bool false,.slice none 0 0,.slice none 0 0])∧Below w.heap.size w w':=by
 have lt:=h.lt
 have nq:w.heap.size≠q:=by omega
 have qn:q≠w.heap.size:=by omega
 have h0:w.cell? ⟨q,0,none⟩=some (Value.slice a5 n5 c5):=h.cell 0
 have h1:w.cell? ⟨q,1,none⟩=some (Value.int .i64 ea):=h.cell 1
 have A_helloMessage:∀ (x:Value) (W:World),(Instr.typeAssert (.iface 86 x) 42 72 true).run Tryz.prog W = .ok (.tuple #[.pointer none,.bool false]) W:=fun _ _=>by kernel_rfl
 have A_answerMessage:∀ (x:Value) (W:World),(Instr.typeAssert (.iface 86 x) 42 77 true).run Tryz.prog W = .ok (.tuple #[.pointer none,.bool false]) W:=fun _ _=>by kernel_rfl
 have A_ticketMessage:∀ (x:Value) (W:World),(Instr.typeAssert (.iface 86 x) 42 80 true).run Tryz.prog W = .ok (.tuple #[.pointer none,.bool false]) W:=fun _ _=>by kernel_rfl
 have A_endOfEarlyMessage:∀ (x:Value) (W:World),(Instr.typeAssert (.iface 86 x) 42 83 true).run Tryz.prog W = .ok (.tuple #[.pointer none,.bool false]) W:=fun _ _=>by kernel_rfl
 have A_extrasMessage:∀ (x:Value) (W:World),(Instr.typeAssert (.iface 86 x) 42 86 true).run Tryz.prog W = .ok (.tuple #[x,.bool true]) W:=fun _ _=>by kernel_rfl
 clear h
 have RN:=hide (RwC.new w [.int .i64 8,.int .i64 0,.slice none 0 0,.slice none 0 0,.string ⟨#[]⟩,.slice a5 n5 c5,.slice none 0 0,.int .i64 0,.int .i64 ea,.slice none 0 0,.bool false,.slice none 0 0,.slice none 0 0] 26)
 obtain ⟨d13,hd13,hrow13⟩:=rowM
 go_enter Tryz.func36,Tryz.ntmps36
 go_wp2
 go_region
 go_wp2
 exact bodyPost_ret (v := .agg #[.int .i64 8,.int .i64 0,.slice none 0 0,.slice none 0 0,.string ⟨#[]⟩,.slice a5 n5 c5,.slice none 0 0,.int .i64 0,.int .i64 ea,.slice none 0 0,.bool false,.slice none 0 0,.slice none 0 0]) (results_cellM Tryz.results36 _ _ w.heap.size [.int .i64 8,.int .i64 0,.slice none 0 0,.slice none 0 0,.string ⟨#[]⟩,.slice a5 n5 c5,.slice none 0 0,.int .i64 0,.int .i64 ea,.slice none 0 0,.bool false,.slice none 0 0,.slice none 0 0] d13 rfl (RN.out.drew1.range) hd13 hrow13 iM) rfl ⟨rfl,((Below.refl _ _).alloc (Nat.le_refl _) _).drew⟩
set_option maxRecDepth 20000 in
set_option maxHeartbeats 1000000 in
theorem plainCerts_any (h:RwC w q [.slice a11 n11 c11] t) :
  Calls Tryz.prog 36 #[.iface 89 (.pointer (some ⟨q,0,none⟩))] w fun e w'=>e = .returned (.agg #[.int .i64 11,.int .i64 0,.slice none 0 0,.slice none 0 0,.string ⟨#[]⟩,.slice none 0 0,.slice none 0 0,.int .i64 0,.int .i64 0,.slice none 0 0,.bool false,.slice a11 n11 c11,.slice none 0 0])∧Below w.heap.size w w':=by
 have lt:=h.lt
 have nq:w.heap.size≠q:=by omega
 have qn:q≠w.heap.size:=by omega
 have h0:w.cell? ⟨q,0,none⟩=some (Value.slice a11 n11 c11):=h.cell 0
 have A_helloMessage:∀ (x:Value) (W:World),(Instr.typeAssert (.iface 89 x) 42 72 true).run Tryz.prog W = .ok (.tuple #[.pointer none,.bool false]) W:=fun _ _=>by kernel_rfl
 have A_answerMessage:∀ (x:Value) (W:World),(Instr.typeAssert (.iface 89 x) 42 77 true).run Tryz.prog W = .ok (.tuple #[.pointer none,.bool false]) W:=fun _ _=>by kernel_rfl
 have A_ticketMessage:∀ (x:Value) (W:World),(Instr.typeAssert (.iface 89 x) 42 80 true).run Tryz.prog W = .ok (.tuple #[.pointer none,.bool false]) W:=fun _ _=>by kernel_rfl
 have A_endOfEarlyMessage:∀ (x:Value) (W:World),(Instr.typeAssert (.iface 89 x) 42 83 true).run Tryz.prog W = .ok (.tuple #[.pointer none,.bool false]) W:=fun _ _=>by kernel_rfl
 have A_extrasMessage:∀ (x:Value) (W:World),(Instr.typeAssert (.iface 89 x) 42 86 true).run Tryz.prog W = .ok (.tuple #[.pointer none,.bool false]) W:=fun _ _=>by kernel_rfl
 have A_certsMessage:∀ (x:Value) (W:World),(Instr.typeAssert (.iface 89 x) 42 89 true).run Tryz.prog W = .ok (.tuple #[x,.bool true]) W:=fun _ _=>by kernel_rfl
 clear h
 have RN:=hide (RwC.new w [.int .i64 11,.int .i64 0,.slice none 0 0,.slice none 0 0,.string ⟨#[]⟩,.slice none 0 0,.slice none 0 0,.int .i64 0,.int .i64 0,.slice none 0 0,.bool false,.slice a11 n11 c11,.slice none 0 0] 26)
 obtain ⟨d13,hd13,hrow13⟩:=rowM
 go_enter Tryz.func36,Tryz.ntmps36
 go_wp2
 exact bodyPost_ret (v := .agg #[.int .i64 11,.int .i64 0,.slice none 0 0,.slice none 0 0,.string ⟨#[]⟩,.slice none 0 0,.slice none 0 0,.int .i64 0,.int .i64 0,.slice none 0 0,.bool false,.slice a11 n11 c11,.slice none 0 0]) (results_cellM Tryz.results36 _ _ w.heap.size [.int .i64 11,.int .i64 0,.slice none 0 0,.slice none 0 0,.string ⟨#[]⟩,.slice none 0 0,.slice none 0 0,.int .i64 0,.int .i64 0,.slice none 0 0,.bool false,.slice a11 n11 c11,.slice none 0 0] d13 rfl (RN.out.range) hd13 hrow13 iM) rfl ⟨rfl,((Below.refl _ _).alloc (Nat.le_refl _) _)⟩
set_option maxRecDepth 20000 in
set_option maxHeartbeats 1000000 in
theorem plainProof_any (h:RwC w q [.slice a12 n12 c12] t) :
  Calls Tryz.prog 36 #[.iface 92 (.pointer (some ⟨q,0,none⟩))] w fun e w'=>e = .returned (.agg #[.int .i64 15,.int .i64 0,.slice none 0 0,.slice none 0 0,.string ⟨#[]⟩,.slice none 0 0,.slice none 0 0,.int .i64 0,.int .i64 0,.slice none 0 0,.bool false,.slice none 0 0,.slice a12 n12 c12])∧Below w.heap.size w w':=by
 have lt:=h.lt
 have nq:w.heap.size≠q:=by omega
 have qn:q≠w.heap.size:=by omega
 have h0:w.cell? ⟨q,0,none⟩=some (Value.slice a12 n12 c12):=h.cell 0
 have A_helloMessage:∀ (x:Value) (W:World),(Instr.typeAssert (.iface 92 x) 42 72 true).run Tryz.prog W = .ok (.tuple #[.pointer none,.bool false]) W:=fun _ _=>by kernel_rfl
 have A_answerMessage:∀ (x:Value) (W:World),(Instr.typeAssert (.iface 92 x) 42 77 true).run Tryz.prog W = .ok (.tuple #[.pointer none,.bool false]) W:=fun _ _=>by kernel_rfl
 have A_ticketMessage:∀ (x:Value) (W:World),(Instr.typeAssert (.iface 92 x) 42 80 true).run Tryz.prog W = .ok (.tuple #[.pointer none,.bool false]) W:=fun _ _=>by kernel_rfl
 have A_endOfEarlyMessage:∀ (x:Value) (W:World),(Instr.typeAssert (.iface 92 x) 42 83 true).run Tryz.prog W = .ok (.tuple #[.pointer none,.bool false]) W:=fun _ _=>by kernel_rfl
 have A_extrasMessage:∀ (x:Value) (W:World),(Instr.typeAssert (.iface 92 x) 42 86 true).run Tryz.prog W = .ok (.tuple #[.pointer none,.bool false]) W:=fun _ _=>by kernel_rfl
 have A_certsMessage:∀ (x:Value) (W:World),(Instr.typeAssert (.iface 92 x) 42 89 true).run Tryz.prog W = .ok (.tuple #[.pointer none,.bool false]) W:=fun _ _=>by kernel_rfl
 have A_proofMessage:∀ (x:Value) (W:World),(Instr.typeAssert (.iface 92 x) 42 92 true).run Tryz.prog W = .ok (.tuple #[x,.bool true]) W:=fun _ _=>by kernel_rfl
 clear h
 have RN:=hide (RwC.new w [.int .i64 15,.int .i64 0,.slice none 0 0,.slice none 0 0,.string ⟨#[]⟩,.slice none 0 0,.slice none 0 0,.int .i64 0,.int .i64 0,.slice none 0 0,.bool false,.slice none 0 0,.slice a12 n12 c12] 26)
 obtain ⟨d13,hd13,hrow13⟩:=rowM
 go_enter Tryz.func36,Tryz.ntmps36
 go_wp2
 exact bodyPost_ret (v := .agg #[.int .i64 15,.int .i64 0,.slice none 0 0,.slice none 0 0,.string ⟨#[]⟩,.slice none 0 0,.slice none 0 0,.int .i64 0,.int .i64 0,.slice none 0 0,.bool false,.slice none 0 0,.slice a12 n12 c12]) (results_cellM Tryz.results36 _ _ w.heap.size [.int .i64 15,.int .i64 0,.slice none 0 0,.slice none 0 0,.string ⟨#[]⟩,.slice none 0 0,.slice none 0 0,.int .i64 0,.int .i64 0,.slice none 0 0,.bool false,.slice none 0 0,.slice a12 n12 c12] d13 rfl (RN.out.range) hd13 hrow13 iM) rfl ⟨rfl,((Below.refl _ _).alloc (Nat.le_refl _) _)⟩
set_option maxRecDepth 20000 in
set_option maxHeartbeats 1000000 in
theorem plainFinished_any (h:RwC w q [.slice a12 n12 c12] t) :
  Calls Tryz.prog 36 #[.iface 95 (.pointer (some ⟨q,0,none⟩))] w fun e w'=>e = .returned (.agg #[.int .i64 20,.int .i64 0,.slice none 0 0,.slice none 0 0,.string ⟨#[]⟩,.slice none 0 0,.slice none 0 0,.int .i64 0,.int .i64 0,.slice none 0 0,.bool false,.slice none 0 0,.slice a12 n12 c12])∧Below w.heap.size w w':=by
 have lt:=h.lt
 have nq:w.heap.size≠q:=by omega
 have qn:q≠w.heap.size:=by omega
 have h0:w.cell? ⟨q,0,none⟩=some (Value.slice a12 n12 c12):=h.cell 0
 have A_helloMessage:∀ (x:Value) (W:World),(Instr.typeAssert (.iface 95 x) 42 72 true).run Tryz.prog W = .ok (.tuple #[.pointer none,.bool false]) W:=fun _ _=>by kernel_rfl
 have A_answerMessage:∀ (x:Value) (W:World),(Instr.typeAssert (.iface 95 x) 42 77 true).run Tryz.prog W = .ok (.tuple #[.pointer none,.bool false]) W:=fun _ _=>by kernel_rfl
 have A_ticketMessage:∀ (x:Value) (W:World),(Instr.typeAssert (.iface 95 x) 42 80 true).run Tryz.prog W = .ok (.tuple #[.pointer none,.bool false]) W:=fun _ _=>by kernel_rfl
 have A_endOfEarlyMessage:∀ (x:Value) (W:World),(Instr.typeAssert (.iface 95 x) 42 83 true).run Tryz.prog W = .ok (.tuple #[.pointer none,.bool false]) W:=fun _ _=>by kernel_rfl
 have A_extrasMessage:∀ (x:Value) (W:World),(Instr.typeAssert (.iface 95 x) 42 86 true).run Tryz.prog W = .ok (.tuple #[.pointer none,.bool false]) W:=fun _ _=>by kernel_rfl
 have A_certsMessage:∀ (x:Value) (W:World),(Instr.typeAssert (.iface 95 x) 42 89 true).run Tryz.prog W = .ok (.tuple #[.pointer none,.bool false]) W:=fun _ _=>by kernel_rfl
 have A_proofMessage:∀ (x:Value) (W:World),(Instr.typeAssert (.iface 95 x) 42 92 true).run Tryz.prog W = .ok (.tuple #[.pointer none,.bool false]) W:=fun _ _=>by kernel_rfl
 have A_finishedMessage:∀ (x:Value) (W:World),(Instr.typeAssert (.iface 95 x) 42 95 true).run Tryz.prog W = .ok (.tuple #[x,.bool true]) W:=fun _ _=>by kernel_rfl
 clear h
 have RN:=hide (RwC.new w [.int .i64 20,.int .i64 0,.slice none 0 0,.slice none 0 0,.string ⟨#[]⟩,.slice none 0 0,.slice none 0 0,.int .i64 0,.int .i64 0,.slice none 0 0,.bool false,.slice none 0 0,.slice a12 n12 c12] 26)
 obtain ⟨d13,hd13,hrow13⟩:=rowM
 go_enter Tryz.func36,Tryz.ntmps36
 go_wp2
 exact bodyPost_ret (v := .agg #[.int .i64 20,.int .i64 0,.slice none 0 0,.slice none 0 0,.string ⟨#[]⟩,.slice none 0 0,.slice none 0 0,.int .i64 0,.int .i64 0,.slice none 0 0,.bool false,.slice none 0 0,.slice a12 n12 c12]) (results_cellM Tryz.results36 _ _ w.heap.size [.int .i64 20,.int .i64 0,.slice none 0 0,.slice none 0 0,.string ⟨#[]⟩,.slice none 0 0,.slice none 0 0,.int .i64 0,.int .i64 0,.slice none 0 0,.bool false,.slice none 0 0,.slice a12 n12 c12] d13 rfl (RN.out.range) hd13 hrow13 iM) rfl ⟨rfl,((Below.refl _ _).alloc (Nat.le_refl _) _)⟩
set_option maxRecDepth 20000 in
set_option maxHeartbeats 1000000 in
theorem plainUpdate_any (h:RwC w q [.int .i64 ea] t) :
  Calls Tryz.prog 36 #[.iface 97 (.pointer (some ⟨q,0,none⟩))] w fun e w'=>e = .returned (.agg #[.int .i64 24,.int .i64 0,.slice none 0 0,.slice none 0 0,.string ⟨#[]⟩,.slice none 0 0,.slice none 0 0,.int .i64 0,.int .i64 ea,.slice none 0 0,.bool false,.slice none 0 0,.slice none 0 0])∧Below w.heap.size w w':=by
 have lt:=h.lt
 have nq:w.heap.size≠q:=by omega
 have qn:q≠w.heap.size:=by omega
 have h0:w.cell? ⟨q,0,none⟩=some (Value.int .i64 ea):=h.cell 0
 have A_helloMessage:∀ (x:Value) (W:World),(Instr.typeAssert (.iface 97 x) 42 72 true).run Tryz.prog W = .ok (.tuple #[.pointer none,.bool false]) W:=fun _ _=>by kernel_rfl
 have A_answerMessage:∀ (x:Value) (W:World),(Instr.typeAssert (.iface 97 x) 42 77 true).run Tryz.prog W = .ok (.tuple #[.pointer none,.bool false]) W:=fun _ _=>by kernel_rfl
 have A_ticketMessage:∀ (x:Value) (W:World),(Instr.typeAssert (.iface 97 x) 42 80 true).run Tryz.prog W = .ok (.tuple #[.pointer none,.bool false]) W:=fun _ _=>by kernel_rfl
 have A_endOfEarlyMessage:∀ (x:Value) (W:World),(Instr.typeAssert (.iface 97 x) 42 83 true).run Tryz.prog W = .ok (.tuple #[.pointer none,.bool false]) W:=fun _ _=>by kernel_rfl
 have A_extrasMessage:∀ (x:Value) (W:World),(Instr.typeAssert (.iface 97 x) 42 86 true).run Tryz.prog W = .ok (.tuple #[.pointer none,.bool false]) W:=fun _ _=>by kernel_rfl
 have A_certsMessage:∀ (x:Value) (W:World),(Instr.typeAssert (.iface 97 x) 42 89 true).run Tryz.prog W = .ok (.tuple #[.pointer none,.bool false]) W:=fun _ _=>by kernel_rfl
 have A_proofMessage:∀ (x:Value) (W:World),(Instr.typeAssert (.iface 97 x) 42 92 true).run Tryz.prog W = .ok (.tuple #[.pointer none,.bool false]) W:=fun _ _=>by kernel_rfl
 have A_finishedMessage:∀ (x:Value) (W:World),(Instr.typeAssert (.iface 97 x) 42 95 true).run Tryz.prog W = .ok (.tuple #[.pointer none,.bool false]) W:=fun _ _=>by kernel_rfl
 have A_updateMessage:∀ (x:Value) (W:World),(Instr.typeAssert (.iface 97 x) 42 97 true).run Tryz.prog W = .ok (.tuple #[x,.bool true]) W:=fun _ _=>by kernel_rfl
 clear h
 have RN:=hide (RwC.new w [.int .i64 24,.int .i64 0,.slice none 0 0,.slice none 0 0,.string ⟨#[]⟩,.slice none 0 0,.slice none 0 0,.int .i64 0,.int .i64 ea,.slice none 0 0,.bool false,.slice none 0 0,.slice none 0 0] 26)
 obtain ⟨d13,hd13,hrow13⟩:=rowM
 go_enter Tryz.func36,Tryz.ntmps36
 go_wp2
 exact bodyPost_ret (v := .agg #[.int .i64 24,.int .i64 0,.slice none 0 0,.slice none 0 0,.string ⟨#[]⟩,.slice none 0 0,.slice none 0 0,.int .i64 0,.int .i64 ea,.slice none 0 0,.bool false,.slice none 0 0,.slice none 0 0]) (results_cellM Tryz.results36 _ _ w.heap.size [.int .i64 24,.int .i64 0,.slice none 0 0,.slice none 0 0,.string ⟨#[]⟩,.slice none 0 0,.slice none 0 0,.int .i64 0,.int .i64 ea,.slice none 0 0,.bool false,.slice none 0 0,.slice none 0 0] d13 rfl (RN.out.range) hd13 hrow13 iM) rfl ⟨rfl,((Below.refl _ _).alloc (Nat.le_refl _) _)⟩
end
end Go.Proofs.YtmmbkkfjiaoeiaaGreat
