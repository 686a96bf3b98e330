import Derived.Test.YtmmbkkfjiaoeiaaGreatGV4
import Derived.Test.YtmmbkkfjiaoeiaaGreatGVxMgU1
import Derived.Test.YtmmbkkfjiaoeiaaGreatGVxMgU2
import Derived.Test.YtmmbkkfjiaoeiaaGreatGVxMgU3
import Derived.Test.YtmmbkkfjiaoeiaaGreatGVxMgU4
import Derived.Test.YtmmbkkfjiaoeiaaGreatGVxMgU5
import Derived.Test.YtmmbkkfjiaoeiaaGreatGVxMgU6
import Derived.Test.YtmmbkkfjiaoeiaaGreatGVxMgU7
import Derived.Test.YtmmbkkfjiaoeiaaGreatGVxMgU8
namespace Go.Proofs.YtmmbkkfjiaoeiaaGreat
open Go Go.RowKit
def mq0:MQ:=⟨none,0,0,none,0,0,none,0,0,none,0,0,none,0,0,none,0,0,none,0,0,[]⟩
def msg0:Msg:=⟨0,0,[],[],[],[],[],0,0,[],false,[],[]⟩
theorem rd0 (w:World) (g:Nat) (a:Option Addr) (k:IntKind):Rd w g a k []:=fun h=>absurd h (by simp)
theorem rdT0 (w:World) (g:Nat) (a:Option Addr):RdT w g a []:=fun h=>absurd h (by simp)
theorem rdL0 (w:World) (g:Nat) (a:Option Addr) (ps:List Plb):RdL w g a [] ps:=⟨fun h=>absurd h (by simp),fun i hi=>absurd hi (by simp)⟩
theorem byt0:Byt []:=fun i=>by simp
theorem none0 {P:Nat→Prop} {x:List (List Int)} (h:x=[]):∀ i,i < x.length→P i:=fun i hi=>absurd hi (by simp [h])
def TyP (w:World) (s:Bool) (T S:TypeId) (fs:List Value) (f:Int) (e:Ending) (w':World):Prop :=
 (s=false∧e = .returned (.tuple #[.nilIface,.int .i64 2])∨s=true∧∃ q,e = .returned (.tuple #[.iface T (.pointer (some ⟨q,0,none⟩)),.int .i64 f])∧w.heap.size≤q∧RwC w' q fs S)∧Below w.heap.size w w'
def answerM (m:Msg):Msg:={ msg0 with k:=2,v:=m.v,r:=m.r,s:=m.s,rs:=m.rs }
def answerQ (p:MQ):MQ:={ mq0 with a2:=p.a2,c2:=p.c2,g2:=p.g2,a3:=p.a3,c3:=p.c3,g3:=p.g3 }
theorem answerM_is {m:Msg} (i:IsM m):IsM (answerM m):=⟨i.rB,i.sB,byt0,byt0,byt0,none0 rfl,i.rL,i.sL,Nat.zero_le _,Nat.zero_le _,Nat.zero_le _,Nat.zero_le _,Nat.zero_le _,none0 rfl,Nat.zero_le _,fun l hl=>absurd hl (by simp [answerM,msg0])⟩
theorem answerM_has {w:World} {p:MQ} {m:Msg} (h:HasM w p m):HasM w (answerQ p) (answerM m):=⟨h.r,h.s,rdT0 _ _ _,rd0 _ _ _ _,rd0 _ _ _ _,rdL0 _ _ _ _,rd0 _ _ _ _,Nat.zero_le _⟩
theorem typedAnswer_any (w:World) (p:MQ) (m:Msg) (h:HasM w p m) (i:IsM m) (hk:m.k=2) :
  Calls Tryz.prog 16 #[.agg (mgV p m)] w (TyP w (sameM (answerM m) m) 77 79 [.int .i64 m.v,.slice p.a2 m.r.length p.c2,.slice p.a3 m.s.length p.c3,.bool m.rs] (fpF m.v m.r.length m.s.length)):=by
 obtain ⟨k,v,r,s,ho,pr,ti,ag,ea,bi,rs,ce,pf⟩:=m
 simp only at hk
 subst hk
 exact typedAnswer_walk w v ag ea p.a2 p.a3 p.a5 p.a6 p.a9 p.a11 p.a12 r.length s.length pr.length ti.length bi.length ce.length pf.length p.c2 p.c3 p.c5 p.c6 p.c9 p.c11 p.c12 ⟨⟨ho⟩⟩ rs (mgV (answerQ p) (answerM ⟨2,v,r,s,ho,pr,ti,ag,ea,bi,rs,ce,pf⟩)) (sameM (answerM ⟨2,v,r,s,ho,pr,ti,ag,ea,bi,rs,ce,pf⟩) ⟨2,v,r,s,ho,pr,ti,ag,ea,bi,rs,ce,pf⟩) _
  (fun W q R=>answerTake_any W q _ _ _ _ _ _ _ _ _ _ _ _ _ _ _ _ _ _ _ _ _ _ _ _ _ _ _ _ _ _ _ _ R)
  (fun W q R=>plainAnswer_any W q _ _ _ _ _ _ _ _ _ R)
  (fun W n=>isSame_any W (answerQ p) p _ _ (answerM_has (h.up n)) (h.up n) (answerM_is i) i)
  (fun W q _ R=>(firstFault_any W q _ _ _ _ _ _ _ i.rL i.sL (R.cell 0) (R.cell 1) (R.cell 2)).mono (by rintro e w' ⟨rfl,rfl⟩;exact ⟨rfl,Below.refl _ _⟩))
def ticketM (m:Msg):Msg:={ msg0 with k:=4,ag:=m.ag,ea:=m.ea,r:=m.r,ti:=m.ti }
def ticketQ (p:MQ):MQ:={ mq0 with a2:=p.a2,c2:=p.c2,g2:=p.g2,a6:=p.a6,c6:=p.c6,g6:=p.g6 }
theorem ticketM_is {m:Msg} (i:IsM m):IsM (ticketM m):=⟨i.rB,byt0,i.tiB,byt0,byt0,none0 rfl,i.rL,Nat.zero_le _,Nat.zero_le _,i.tiL,Nat.zero_le _,Nat.zero_le _,Nat.zero_le _,none0 rfl,Nat.zero_le _,fun l hl=>absurd hl (by simp [ticketM,msg0])⟩
theorem ticketM_has {w:World} {p:MQ} {m:Msg} (h:HasM w p m):HasM w (ticketQ p) (ticketM m):=⟨h.r,rd0 _ _ _ _,rdT0 _ _ _,h.ti,rd0 _ _ _ _,rdL0 _ _ _ _,rd0 _ _ _ _,Nat.zero_le _⟩
theorem typedTicket_any (w:World) (p:MQ) (m:Msg) (h:HasM w p m) (i:IsM m) (hk:m.k=4) :
  Calls Tryz.prog 16 #[.agg (mgV p m)] w (TyP w (sameM (ticketM m) m) 80 82 [.int .i64 m.ag,.int .i64 m.ea,.slice p.a2 m.r.length p.c2,.slice p.a6 m.ti.length p.c6] (tiF m.ag m.ea m.r.length m.ti.length)):=by
 obtain ⟨k,v,r,s,ho,pr,ti,ag,ea,bi,rs,ce,pf⟩:=m
 simp only at hk
 subst hk
 exact typedTicket_walk w v ag ea p.a2 p.a3 p.a5 p.a6 p.a9 p.a11 p.a12 r.length s.length pr.length ti.length bi.length ce.length pf.length p.c2 p.c3 p.c5 p.c6 p.c9 p.c11 p.c12 ⟨⟨ho⟩⟩ rs (mgV (ticketQ p) (ticketM ⟨4,v,r,s,ho,pr,ti,ag,ea,bi,rs,ce,pf⟩)) (sameM (ticketM ⟨4,v,r,s,ho,pr,ti,ag,ea,bi,rs,ce,pf⟩) ⟨4,v,r,s,ho,pr,ti,ag,ea,bi,rs,ce,pf⟩) _
  (fun W q R=>ticketTake_any W q _ _ _ _ _ _ _ _ _ _ _ _ _ _ _ _ _ _ _ _ _ _ _ _ _ _ _ _ _ _ _ _ R)
  (fun W q R=>plainTicket_any W q _ _ _ _ _ _ _ _ _ R)
  (fun W n=>isSame_any W (ticketQ p) p _ _ (ticketM_has (h.up n)) (h.up n) (ticketM_is i) i)
  (fun W q _ R=>(ticketFault_any W q _ _ _ _ _ _ _ _ i.rL i.tiL (R.cell 0) (R.cell 1) (R.cell 2) (R.cell 3)).mono (by rintro e w' ⟨rfl,rfl⟩;exact ⟨rfl,Below.refl _ _⟩))
def endM (_m:Msg):Msg:={ msg0 with k:=5 }
def endQ (_p:MQ):MQ:=mq0
theorem endM_is {m:Msg} (_i:IsM m):IsM (endM m):=⟨byt0,byt0,byt0,byt0,byt0,none0 rfl,Nat.zero_le _,Nat.zero_le _,Nat.zero_le _,Nat.zero_le _,Nat.zero_le _,Nat.zero_le _,Nat.zero_le _,none0 rfl,Nat.zero_le _,fun l hl=>absurd hl (by simp [endM,msg0])⟩
theorem endM_has {w:World} {p:MQ} {m:Msg} (_h:HasM w p m):HasM w (endQ p) (endM m):=⟨rd0 _ _ _ _,rd0 _ _ _ _,rdT0 _ _ _,rd0 _ _ _ _,rd0 _ _ _ _,rdL0 _ _ _ _,rd0 _ _ _ _,Nat.zero_le _⟩
theorem typedEnd_any (w:World) (p:MQ) (m:Msg) (h:HasM w p m) (i:IsM m) (hk:m.k=5) :
  Calls Tryz.prog 16 #[.agg (mgV p m)] w (TyP w (sameM (endM m) m) 83 85 [] (0)):=by
 obtain ⟨k,v,r,s,ho,pr,ti,ag,ea,bi,rs,ce,pf⟩:=m
 simp only at hk
 subst hk
 exact typedEnd_walk w v ag ea p.a2 p.a3 p.a5 p.a6 p.a9 p.a11 p.a12 r.length s.length pr.length ti.length bi.length ce.length pf.length p.c2 p.c3 p.c5 p.c6 p.c9 p.c11 p.c12 ⟨⟨ho⟩⟩ rs (mgV (endQ p) (endM ⟨5,v,r,s,ho,pr,ti,ag,ea,bi,rs,ce,pf⟩)) (sameM (endM ⟨5,v,r,s,ho,pr,ti,ag,ea,bi,rs,ce,pf⟩) ⟨5,v,r,s,ho,pr,ti,ag,ea,bi,rs,ce,pf⟩) _
  (fun W q R=>(endTake_any W _ _ _ _ _ _ _ _ _ _ _ _ _ _ _ _ _ _ _ _ _ _ _ _ _ _ _ _).mono (by rintro e w' ⟨rfl,b⟩;exact ⟨rfl,Oth.of b,R.up b⟩))
  (fun W q _=>plainEnd_any W _)
  (fun W n=>isSame_any W (endQ p) p _ _ (endM_has (h.up n)) (h.up n) (endM_is i) i)
  (fun W q _ _=>(endFault_any W _).mono (by rintro e w' ⟨rfl,rfl⟩;exact ⟨rfl,Below.refl _ _⟩))
def extrasM (m:Msg):Msg:={ msg0 with k:=8,pr:=m.pr,ea:=m.ea }
def extrasQ (p:MQ):MQ:={ mq0 with a5:=p.a5,c5:=p.c5,g5:=p.g5 }
theorem extrasM_is {m:Msg} (i:IsM m):IsM (extrasM m):=⟨byt0,byt0,byt0,byt0,byt0,none0 rfl,Nat.zero_le _,Nat.zero_le _,i.prL,Nat.zero_le _,Nat.zero_le _,Nat.zero_le _,Nat.zero_le _,none0 rfl,Nat.zero_le _,i.prZ⟩
theorem extrasM_has {w:World} {p:MQ} {m:Msg} (h:HasM w p m):HasM w (extrasQ p) (extrasM m):=⟨rd0 _ _ _ _,rd0 _ _ _ _,h.pr,rd0 _ _ _ _,rd0 _ _ _ _,rdL0 _ _ _ _,rd0 _ _ _ _,h.prC⟩
theorem typedExtras_any (w:World) (p:MQ) (m:Msg) (h:HasM w p m) (i:IsM m) (hk:m.k=8) :
  Calls Tryz.prog 16 #[.agg (mgV p m)] w (TyP w (sameM (extrasM m) m) 86 88 [.slice p.a5 m.pr.length p.c5,.int .i64 m.ea] (exF m.pr m.ea)):=by
 obtain ⟨k,v,r,s,ho,pr,ti,ag,ea,bi,rs,ce,pf⟩:=m
 simp only at hk
 subst hk
 exact typedExtras_walk w v ag ea p.a2 p.a3 p.a5 p.a6 p.a9 p.a11 p.a12 r.length s.length pr.length ti.length bi.length ce.length pf.length p.c2 p.c3 p.c5 p.c6 p.c9 p.c11 p.c12 ⟨⟨ho⟩⟩ rs (mgV (extrasQ p) (extrasM ⟨8,v,r,s,ho,pr,ti,ag,ea,bi,rs,ce,pf⟩)) (sameM (extrasM ⟨8,v,r,s,ho,pr,ti,ag,ea,bi,rs,ce,pf⟩) ⟨8,v,r,s,ho,pr,ti,ag,ea,bi,rs,ce,pf⟩) _
  (fun W q R=>extrasTake_any W q _ _ _ _ _ _ _ _ _ _ _ _ _ _ _ _ _ _ _ _ _ _ _ _ _ _ _ _ _ _ R)
  (fun W q R=>plainExtras_any W q _ _ _ _ _ R)
  (fun W n=>isSame_any W (extrasQ p) p _ _ (extrasM_has (h.up n)) (h.up n) (extrasM_is i) i)
  (fun W q n R=>(extrasFault_any W q _ _ _ _ _ (h.up n).pr h.prC i.prL i.prZ (R.cell 0) (R.cell 1)).mono (by rintro e w' ⟨rfl,rfl⟩;exact ⟨rfl,Below.refl _ _⟩))
def certsM (m:Msg):Msg:={ msg0 with k:=11,ce:=m.ce }
def certsQ (p:MQ):MQ:={ mq0 with a11:=p.a11,c11:=p.c11,g11:=p.g11,ps:=p.ps }
theorem certsM_is {m:Msg} (i:IsM m):IsM (certsM m):=⟨byt0,byt0,byt0,byt0,byt0,i.ceB,Nat.zero_le _,Nat.zero_le _,Nat.zero_le _,Nat.zero_le _,Nat.zero_le _,i.ceL,Nat.zero_le _,i.ceZ,Nat.zero_le _,fun l hl=>absurd hl (by simp [certsM,msg0])⟩
theorem certsM_has {w:World} {p:MQ} {m:Msg} (h:HasM w p m):HasM w (certsQ p) (certsM m):=⟨rd0 _ _ _ _,rd0 _ _ _ _,rdT0 _ _ _,rd0 _ _ _ _,rd0 _ _ _ _,h.ce,rd0 _ _ _ _,Nat.zero_le _⟩
theorem typedCerts_any (w:World) (p:MQ) (m:Msg) (h:HasM w p m) (i:IsM m) (hk:m.k=11) :
  Calls Tryz.prog 16 #[.agg (mgV p m)] w (TyP w (sameM (certsM m) m) 89 91 [.slice p.a11 m.ce.length p.c11] (ceF m.ce)):=by
 obtain ⟨k,v,r,s,ho,pr,ti,ag,ea,bi,rs,ce,pf⟩:=m
 simp only at hk
 subst hk
 exact typedCerts_walk w v ag ea p.a2 p.a3 p.a5 p.a6 p.a9 p.a11 p.a12 r.length s.length pr.length ti.length bi.length ce.length pf.length p.c2 p.c3 p.c5 p.c6 p.c9 p.c11 p.c12 ⟨⟨ho⟩⟩ rs (mgV (certsQ p) (certsM ⟨11,v,r,s,ho,pr,ti,ag,ea,bi,rs,ce,pf⟩)) (sameM (certsM ⟨11,v,r,s,ho,pr,ti,ag,ea,bi,rs,ce,pf⟩) ⟨11,v,r,s,ho,pr,ti,ag,ea,bi,rs,ce,pf⟩) _
  (fun W q R=>certsTake_any W q _ _ _ _ _ _ _ _ _ _ _ _ _ _ _ _ _ _ _ _ _ _ _ _ _ _ _ _ _ R)
  (fun W q R=>plainCerts_any W q _ _ _ _ R)
  (fun W n=>isSame_any W (certsQ p) p _ _ (certsM_has (h.up n)) (h.up n) (certsM_is i) i)
  (fun W q n R=>certsFault_any W q _ _ _ _ _ (h.up n).ce i.ceL i.ceZ (R.cell 0))
def proofM (m:Msg):Msg:={ msg0 with k:=15,pf:=m.pf }
def proofQ (p:MQ):MQ:={ mq0 with a12:=p.a12,c12:=p.c12,g12:=p.g12 }
theorem proofM_is {m:Msg} (i:IsM m):IsM (proofM m):=⟨byt0,byt0,byt0,byt0,i.pfB,none0 rfl,Nat.zero_le _,Nat.zero_le _,Nat.zero_le _,Nat.zero_le _,Nat.zero_le _,Nat.zero_le _,i.pfL,none0 rfl,Nat.zero_le _,fun l hl=>absurd hl (by simp [proofM,msg0])⟩
theorem proofM_has {w:World} {p:MQ} {m:Msg} (h:HasM w p m):HasM w (proofQ p) (proofM m):=⟨rd0 _ _ _ _,rd0 _ _ _ _,rdT0 _ _ _,rd0 _ _ _ _,rd0 _ _ _ _,rdL0 _ _ _ _,h.pf,Nat.zero_le _⟩
theorem typedProof_any (w:World) (p:MQ) (m:Msg) (h:HasM w p m) (i:IsM m) (hk:m.k=15) :
  Calls Tryz.prog 16 #[.agg (mgV p m)] w (TyP w (sameM (proofM m) m) 92 94 [.slice p.a12 m.pf.length p.c12] (pfF 64 m.pf.length)):=by
 obtain ⟨k,v,r,s,ho,pr,ti,ag,ea,bi,rs,ce,pf⟩:=m
 simp only at hk
 subst hk
 exact typedProof_walk w v ag ea p.a2 p.a3 p.a5 p.a6 p.a9 p.a11 p.a12 r.length s.length pr.length ti.length bi.length ce.length pf.length p.c2 p.c3 p.c5 p.c6 p.c9 p.c11 p.c12 ⟨⟨ho⟩⟩ rs (mgV (proofQ p) (proofM ⟨15,v,r,s,ho,pr,ti,ag,ea,bi,rs,ce,pf⟩)) (sameM (proofM ⟨15,v,r,s,ho,pr,ti,ag,ea,bi,rs,ce,pf⟩) ⟨15,v,r,s,ho,pr,ti,ag,ea,bi,rs,ce,pf⟩) _
  (fun W q R=>proofTake_any W q _ _ _ _ _ _ _ _ _ _ _ _ _ _ _ _ _ _ _ _ _ _ _ _ _ _ _ _ _ R)
  (fun W q R=>plainProof_any W q _ _ _ _ R)
  (fun W n=>isSame_any W (proofQ p) p _ _ (proofM_has (h.up n)) (h.up n) (proofM_is i) i)
  (fun W q _ R=>(proofFault_any W q _ _ _ i.pfL (R.cell 0)).mono (by rintro e w' ⟨rfl,rfl⟩;exact ⟨rfl,Below.refl _ _⟩))
def finishedM (m:Msg):Msg:={ msg0 with k:=20,pf:=m.pf }
def finishedQ (p:MQ):MQ:={ mq0 with a12:=p.a12,c12:=p.c12,g12:=p.g12 }
theorem finishedM_is {m:Msg} (i:IsM m):IsM (finishedM m):=⟨byt0,byt0,byt0,byt0,i.pfB,none0 rfl,Nat.zero_le _,Nat.zero_le _,Nat.zero_le _,Nat.zero_le _,Nat.zero_le _,Nat.zero_le _,i.pfL,none0 rfl,Nat.zero_le _,fun l hl=>absurd hl (by simp [finishedM,msg0])⟩
theorem finishedM_has {w:World} {p:MQ} {m:Msg} (h:HasM w p m):HasM w (finishedQ p) (finishedM m):=⟨rd0 _ _ _ _,rd0 _ _ _ _,rdT0 _ _ _,rd0 _ _ _ _,rd0 _ _ _ _,rdL0 _ _ _ _,h.pf,Nat.zero_le _⟩
theorem typedFinished_any (w:World) (p:MQ) (m:Msg) (h:HasM w p m) (i:IsM m) (hk:m.k=20) :
  Calls Tryz.prog 16 #[.agg (mgV p m)] w (TyP w (sameM (finishedM m) m) 95 96 [.slice p.a12 m.pf.length p.c12] (pfF 32 m.pf.length)):=by
 obtain ⟨k,v,r,s,ho,pr,ti,ag,ea,bi,rs,ce,pf⟩:=m
 simp only at hk
 subst hk
 exact typedFinished_walk w v ag ea p.a2 p.a3 p.a5 p.a6 p.a9 p.a11 p.a12 r.length s.length pr.length ti.length bi.length ce.length pf.length p.c2 p.c3 p.c5 p.c6 p.c9 p.c11 p.c12 ⟨⟨ho⟩⟩ rs (mgV (finishedQ p) (finishedM ⟨20,v,r,s,ho,pr,ti,ag,ea,bi,rs,ce,pf⟩)) (sameM (finishedM ⟨20,v,r,s,ho,pr,ti,ag,ea,bi,rs,ce,pf⟩) ⟨20,v,r,s,ho,pr,ti,ag,ea,bi,rs,ce,pf⟩) _
  (fun W q R=>finishedTake_any W q _ _ _ _ _ _ _ _ _ _ _ _ _ _ _ _ _ _ _ _ _ _ _ _ _ _ _ _ _ R)
  (fun W q R=>plainFinished_any W q _ _ _ _ R)
  (fun W n=>isSame_any W (finishedQ p) p _ _ (finishedM_has (h.up n)) (h.up n) (finishedM_is i) i)
  (fun W q _ R=>(finishedFault_any W q _ _ _ i.pfL (R.cell 0)).mono (by rintro e w' ⟨rfl,rfl⟩;exact ⟨rfl,Below.refl _ _⟩))
def updateM (m:Msg):Msg:={ msg0 with k:=24,ea:=m.ea }
def updateQ (_p:MQ):MQ:=mq0
theorem updateM_is {m:Msg} (_i:IsM m):IsM (updateM m):=⟨byt0,byt0,byt0,byt0,byt0,none0 rfl,Nat.zero_le _,Nat.zero_le _,Nat.zero_le _,Nat.zero_le _,Nat.zero_le _,Nat.zero_le _,Nat.zero_le _,none0 rfl,Nat.zero_le _,fun l hl=>absurd hl (by simp [updateM,msg0])⟩
theorem updateM_has {w:World} {p:MQ} {m:Msg} (_h:HasM w p m):HasM w (updateQ p) (updateM m):=⟨rd0 _ _ _ _,rd0 _ _ _ _,rdT0 _ _ _,rd0 _ _ _ _,rd0 _ _ _ _,rdL0 _ _ _ _,rd0 _ _ _ _,Nat.zero_le _⟩
theorem typedUpdate_any (w:World) (p:MQ) (m:Msg) (h:HasM w p m) (i:IsM m) (hk:m.k=24) :
  Calls Tryz.prog 16 #[.agg (mgV p m)] w (TyP w (sameM (updateM m) m) 97 99 [.int .i64 m.ea] (upF m.ea)):=by
 obtain ⟨k,v,r,s,ho,pr,ti,ag,ea,bi,rs,ce,pf⟩:=m
 simp only at hk
 subst hk
 exact typedUpdate_walk w v ag ea p.a2 p.a3 p.a5 p.a6 p.a9 p.a11 p.a12 r.length s.length pr.length ti.length bi.length ce.length pf.length p.c2 p.c3 p.c5 p.c6 p.c9 p.c11 p.c12 ⟨⟨ho⟩⟩ rs (mgV (updateQ p) (updateM ⟨24,v,r,s,ho,pr,ti,ag,ea,bi,rs,ce,pf⟩)) (sameM (updateM ⟨24,v,r,s,ho,pr,ti,ag,ea,bi,rs,ce,pf⟩) ⟨24,v,r,s,ho,pr,ti,ag,ea,bi,rs,ce,pf⟩) _
  (fun W q R=>updateTake_any W q _ _ _ _ _ _ _ _ _ _ _ _ _ _ _ _ _ _ _ _ _ _ _ _ _ _ _ _ _ R)
  (fun W q R=>plainUpdate_any W q _ _ R)
  (fun W n=>isSame_any W (updateQ p) p _ _ (updateM_has (h.up n)) (h.up n) (updateM_is i) i)
  (fun W q _ R=>(updateFault_any W q _ (R.cell 0)).mono (by rintro e w' ⟨rfl,rfl⟩;exact ⟨rfl,Below.refl _ _⟩))
end Go.Proofs.YtmmbkkfjiaoeiaaGreat
