import Derived.Test.YtmmbkkfjiaoeiaaGreatGV21
import Derived.Test.YtmmbkkfjiaoeiaaGreatGV4
import Derived.Test.YtmmbkkfjiaoeiaaGreatGV2
import Derived.Deep.RegionLaw
import Derived.Test.YtmmbkkfjiaoeiaaGreatGV12
import Derived.Test.YtmmbkkfjiaoeiaaGreatGV17
import Derived.Test.YtmmbkkfjiaoeiaaGreatGV14
import Derived.Test.YtmmbkkfjiaoeiaaGreatGV15
import Derived.Test.YtmmbkkfjiaoeiaaGreatGV19
import Derived.Test.YtmmbkkfjiaoeiaaGreatGV7
namespace Go.Proofs.YtmmbkkfjiaoeiaaGreat
open Go Go.RowKit
structure DdM (w1 W:World) (s g:Nat) (a:Option Addr) (c:Nat) (xs:List Int) (v:Value) (ys:List Int) (L:Nat) (u:Int):Prop where
 r:RowB W w1.heap.size v ys
 yb:Byt ys
 yl:ys.length≤L
 d:Drm W s g a c xs u
 b:But s w1 W
theorem DdM.but {w1 W W':World} {s g:Nat} {a:Option Addr} {c:Nat} {xs:List Int} {v:Value} {ys:List Int} {L:Nat} {u u':Int} (h:DdM w1 W s g a c xs v ys L u) (hs:s < w1.heap.size) (n:But s W W') (d:Drm W' s g a c xs u'):DdM w1 W' s g a c xs v ys L u':=⟨h.r.butM n hs,h.yb,h.yl,d,h.b.trans n⟩
theorem DdM.up {w1 W W':World} {s g:Nat} {a:Option Addr} {c:Nat} {xs:List Int} {v:Value} {ys:List Int} {L:Nat} {u:Int} (h:DdM w1 W s g a c xs v ys L u) (n:Below W.heap.size W W'):DdM w1 W' s g a c xs v ys L u:=⟨h.r.up n,h.yb,h.yl,h.d.up n,h.b.appM (n.mono h.b.size)⟩
theorem wpList_field_run {P:Program} {ops:Array Oper} {rest:List Oper} {op:Oper} {a:Act} {w:World} {Q:Exit→Act→World→Prop} (hgd:op.guard=none) (ty:TypeId) (x:Operand) (i:Nat) (ho:op.op = .field ty x i) (v y:Value) (hx:a.eval x=v) (hr:(Instr.field ty v i).run P w = .ok y w) (h:wpList P ops Q rest (a.put op.dst y) w):wpList P ops Q (op :: rest) a w :=
 wpList_plain hgd fun _ hK=>by
  unfold Oper.wp execOp
  simp only [ho,hx,Sem.run_bind,hr,Result.andThen_ok,Sem.run_pure]
  exact hK _ _ h
theorem field_next (w:World) (cd:Int) (p:MQ) (m:Msg) (n:Int):(Instr.field 31 (.agg (rsV cd p m n)) 2).run Tryz.prog w = .ok (.int .i64 n) w:=by
 simp [Instr.field,rsV,asAgg,go_sem]
theorem field_code (w:World) (cd:Int) (p:MQ) (m:Msg) (n:Int):(Instr.field 31 (.agg (rsV cd p m n)) 0).run Tryz.prog w = .ok (.int .i64 cd) w:=by
 simp [Instr.field,rsV,asAgg,go_sem]
set_option maxRecDepth 100000 in
set_option maxHeartbeats 8000000 in
theorem drawDec_M (w : World) (g : Nat) (a : Option Addr) (c : Nat) (xs : List Int) (hr : Rd w g a .u8 xs) (hb : Byt xs) (hl : xs.length ≤ 1048576) :
    Calls Tryz.prog 10 #[.slice a xs.length c] w fun e w'=>∃ (v:Value) (ys:List Int) (i:Int),e = .returned (.tuple #[v,.int .i64 i])∧RowB w' w.heap.size v ys∧Byt ys∧ys.length≤30000∧Below w.heap.size w w':=by
  go_enter Tryz.func10,Tryz.ntmps10
  go_wp2_with fail
  refine (l1SourceX_any w a xs.length c (by omega)).mono ?_
  rintro e w1 ⟨rfl,S1,n1⟩
  obtain ⟨s,hs⟩:∃ s,s=w.heap.size:=⟨_,rfl⟩
  rw [← hs] at S1 ⊢
  have ls:s < w1.heap.size:=S1.lt
  have LG:Hid (0 < xs.length→g < w1.heap.size):=fun h=>by
    have:=hr.lt h
    omega
  have d1:Drm w1 s g a c xs 0:=⟨S1,hr.up n1,fun h=>by have:=hr.lt h;omega,hb,by omega,by omega⟩
  have N1:=hide n1
  have POST:∀ (v:Value) (ys:List Int) (L:Nat) (i u:Int) (W:World),Hid (DdM w1 W s g a c xs v ys L u)→L≤30000→Hid (∃ (v':Value) (ys:List Int) (i':Int),Ending.returned (.tuple #[v,.int .i64 i]) = .returned (.tuple #[v',.int .i64 i'])∧RowB W w.heap.size v' ys∧Byt ys∧ys.length≤30000∧Below w.heap.size w W):=fun v ys L i u W h hL =>
    ⟨v,ys,i,rfl,own_base h.out.r N1.out.size,h.out.yb,Nat.le_trans h.out.yl hL,N1.out.trans (h.out.b.below (by omega) N1.out.size)⟩
  clear S1 n1 hr hs
  go_wp2_with fail
  refine (drawStream_M d1 (by omega)).mono ?_
  rintro e w2 ⟨v,ys,u,rfl,R2,yb,yl,hu,d2,b2⟩
  have D2:DdM w1 w2 s g a c xs v ys 20000 u:=⟨R2,yb,yl,d2,b2⟩
  clear d1 R2 d2 b2
  go_wp2_with fail
  refine (chance_M D2.d (by omega) (by decide) (by decide)).mono ?_
  rintro e w3 ⟨b,rfl,-,d3,b3⟩
  have D3:=D2.but ls b3 d3
  clear D2 d3 b3
  go_upto_if 12 with fail
  go_cut [5,6] (fun v k wc=>∃ (ys:List Int) (i u:Int),DdM w1 wc s g a c xs v ys 20000 u∧k = .int .i64 i∧u≤100)
  case first =>
    cases b with
    | false =>
      have DH:=hide D3
      clear D3
      go_wp2_with fail
      go_meet
      exact ⟨ys,0,_,DH.out,rfl,by omega⟩
    | true =>
      obtain ⟨ya,yc,yg,rfl,rY,nY,kY,bY⟩:=D3.r.rd
      have SD:=hide (specDM_any w3 yg ya yc ys 0 rY yb nY kY (by omega))
      have DH:=hide D3
      clear D3 rY nY kY
      go_wp2_with fail
      refine SD.out.mono ?_
      rintro e w4 ⟨⟨p,rfl,-⟩,n4⟩
      have D4:=hide (DH.out.up n4)
      clear SD DH n4
      obtain ⟨cd,hcd⟩:∃ x,x=dmC ys 0:=⟨_,rfl⟩
      obtain ⟨mr,hmr⟩:∃ x,x=dmR ys 0:=⟨_,rfl⟩
      obtain ⟨nx,hnx⟩:∃ x,x=dmE ys 0:=⟨_,rfl⟩
      rw [← hcd,← hmr,← hnx]
      clear hcd hmr hnx
      have FN:=field_next w4 cd p mr nx
      go_wp2_with (first | (refine wpList_field_run rfl 31 (.tmp 14) 2 rfl _ _ rfl FN ?_) | fail)
      go_meet
      exact ⟨ys,nx,_,D4.out,rfl,by omega⟩
  case rest =>
    clear D3 yb yl ys hu u v
    obtain ⟨ys,i,u,D,rfl,hu⟩:=hcut
    go_wp2_with fail
    refine (chance_M D.d (by omega) (by decide) (by decide)).mono ?_
    rintro e w4 ⟨b,rfl,-,d4,b4⟩
    have D4:=D.but ls b4 d4
    clear D d4 b4
    go_upto_if 17 with fail
    go_cut [5,6] (fun v k wc=>∃ (ys:List Int) (i u:Int),DdM w1 wc s g a c xs v ys 20001 u∧k = .int .i64 i∧u≤120)
    case first =>
      cases b with
      | false =>
        have DH:Hid (DdM w1 w4 s g a c xs _ ys 20001 _):=⟨D4.r,D4.yb,Nat.le_trans D4.yl (by decide),D4.d,D4.b⟩
        clear D4
        go_wp2_with fail
        go_meet
        exact ⟨ys,i,_,DH.out,rfl,by omega⟩
      | true =>
        have SP:=hide (spoil_M D4.d hl (by omega) D4.r D4.b ls LG.out D4.yb (Nat.le_trans D4.yl (by decide)))
        have YL:=hide D4.yl
        clear D4
        go_wp2_with fail
        refine SP.out.mono ?_
        rintro e w5 ⟨zs,r,u5,rfl,zb,zl,R5,hu5,d5,b5⟩
        have DH:Hid (DdM w1 w5 s g a c xs r zs 20001 u5):=⟨R5,zb,by have:=YL.out;omega,d5,b5⟩
        clear SP YL zb zl R5 d5 b5
        go_wp2_with fail
        go_meet
        exact ⟨zs,i,u5,DH.out,rfl,by omega⟩
    case rest =>
      clear D4 hu u ys i
      obtain ⟨ys,i,u,D,rfl,hu⟩:=hcut
      go_wp2_with fail
      refine (chance_M D.d (by omega) (by decide) (by decide)).mono ?_
      rintro e w5 ⟨b,rfl,-,d5,b5⟩
      have D5:=D.but ls b5 d5
      clear D d5 b5
      go_upto_if 22 with fail
      go_cut [5,6] (fun v k wc=>∃ (ys:List Int) (i u:Int),DdM w1 wc s g a c xs v ys 20001 u∧k = .int .i64 i∧u≤130)
      case first =>
        cases b with
        | false =>
          have DH:=hide D5
          clear D5
          go_wp2_with fail
          go_meet
          exact ⟨ys,i,_,DH.out,rfl,by omega⟩
        | true =>
          have yl:=D5.yl
          obtain ⟨ya,yc,yg,rfl,-,-,-,-⟩:=D5.r.rd
          have NX:=hide (next_M (n:=(ys.length:Int)+3) D5.d (by omega) (by omega) (by omega))
          have DH:=hide D5
          clear D5
          go_wp2_with fail
          refine NX.out.mono ?_
          rintro e w6 ⟨r,rfl,-,hr,d6,b6⟩
          have D6:=hide (DH.out.but ls b6 d6)
          clear NX DH d6 b6
          go_wp2_with fail
          go_meet
          exact ⟨ys,_,_,D6.out,rfl,by omega⟩
      case rest =>
        clear D5 hu u ys i
        obtain ⟨ys,i,u,D,rfl,hu⟩:=hcut
        go_wp2_with fail
        refine (chance_M D.d (by omega) (by decide) (by decide)).mono ?_
        rintro e w6 ⟨b,rfl,-,d6,b6⟩
        have D6:=D.but ls b6 d6
        clear D d6 b6
        cases b with
        | false =>
          have DH:=hide D6
          clear D6
          go_wp2
          go_ret2
          exact (POST _ _ _ _ _ _ DH (by decide)).out
        | true =>
          have d6:=D6.d
          have b6:=D6.b
          clear D6
          go_wp2_with fail
          refine (next_M d6 (by omega) (by decide) (by decide)).mono ?_
          rintro e w7 ⟨r1,rfl,-,h1,d7,c7⟩
          have b7:=b6.trans c7
          clear d6 b6 c7
          go_wp2_with fail
          refine (next_M d7 (by omega) (by decide) (by decide)).mono ?_
          rintro e w8 ⟨r2,rfl,-,h2,d8,c8⟩
          have b8:=b7.trans c8
          clear d7 b7 c8
          go_wp2_with fail
          refine (next_M d8 (by omega) (by decide) (by decide)).mono ?_
          rintro e w9 ⟨r3,rfl,-,h3,d9,c9⟩
          have b9:=b8.trans c9
          clear d8 b8 c9
          have s9:=b9.size
          have na:Below w9.heap.size w9 (w9.alloc (.cells #[.int .u8 (r1:Int),.int .u8 0,.int .u8 (31+(r2:Int)),.int .u8 (r3:Int),.int .u8 0] 5)):=(Below.refl _ _).alloc (Nat.le_refl _) _
          have RL:RowB (w9.alloc (.cells #[.int .u8 (r1:Int),.int .u8 0,.int .u8 (31+(r2:Int)),.int .u8 (r3:Int),.int .u8 0] 5)) w9.heap.size (.slice (some ⟨w9.heap.size,0,none⟩) 5 5) [(r1:Int),0,31+(r2:Int),(r3:Int),0]:=World.ownsRow_lit w9 #[.int .u8 (r1:Int),.int .u8 0,.int .u8 (31+(r2:Int)),.int .u8 (r3:Int),.int .u8 0] 5 (Nat.le_refl _) (by unfold maxLen;omega) (by simp)
          have LB:Byt [(r1:Int),0,31+(r2:Int),(r3:Int),0]:=byt_cons (by omega) (by omega) (byt_cons (by omega) (by omega) (byt_cons (by omega) (by omega) (byt_cons (by omega) (by omega) (byt_cons (by omega) (by omega) byt_nil))))
          have DH:Hid (DdM w1 (w9.alloc (.cells #[.int .u8 (r1:Int),.int .u8 0,.int .u8 (31+(r2:Int)),.int .u8 (r3:Int),.int .u8 0] 5)) s g a c xs (.slice (some ⟨w9.heap.size,0,none⟩) 5 5) [(r1:Int),0,31+(r2:Int),(r3:Int),0] 5 _):=⟨own_base RL s9,LB,by simp,d9.up na,b9.appM (na.mono s9)⟩
          clear na RL LB d9 b9
          go_wp2
          go_ret2
          exact (POST _ _ _ _ _ _ DH (by decide)).out
end Go.Proofs.YtmmbkkfjiaoeiaaGreat
namespace Go.Proofs.YtmmbkkfjiaoeiaaGreat
open Go Go.RowKit
set_option maxHeartbeats 1000000 in
theorem lwSameTexts_same (w:World) (g g':Nat) (a b:Option Addr) (ca cb:Nat) (ls:List (List UInt8)) (ha:RdT w g a ls) (hb:RdT w g' b ls) (hn:ls.length≤1048576) :
  Calls Tryz.prog 25 #[.slice a ls.length ca,.slice b ls.length cb] w fun e w'=>e = .returned (.bool true)∧Below w.heap.size w w':=by
 go_enter Tryz.func25,Tryz.ntmps25
 go_wp2
 go_loopw [5] (fun i wr=>∃ (k n:Nat),k≤ls.length∧i = .int .i64 k∧wr=w.drewN n) (fun i _=>ls.length - (intOf i).toNat)
 case atStart=>exact ⟨0,0,Nat.zero_le _,rfl,rfl⟩
 case round =>
  obtain ⟨k,n,hk,rfl,rfl⟩:=hrel
  by_cases hlt:k < ls.length
  ·obtain ⟨off, rfl, hc⟩ := ha (by omega)
   obtain ⟨off',rfl,hc'⟩:=hb (by omega)
   have h1:=hc k hlt
   have h2:=hc' k hlt
   have hlt':(k:Int) < (ls.length:Int):=by omega
   generalize ls.getD k []=x at *
   have e1:(x == x)=true:=by simp
   clear hc hc'
   unfold tx at h1 h2
   go_wp2
   go_region
   go_wp2
   go_roundw
   case rel=>exact ⟨k+1,_,by omega,by go_num,rfl⟩
   case measure=>simp [intOf];omega
  ·obtain rfl : k = ls.length := by omega
   go_wp2
   go_ret
   exact ⟨rfl,below_drewN (Below.refl _ _) _⟩
set_option maxRecDepth 100000 in
set_option maxHeartbeats 8000000 in
theorem lwSameMsg_same (w : World) (p q : MQ) (m : Msg) (h : HasM w p m) (h' : HasM w q m) (i : IsM m) :
  Calls Tryz.prog 9 #[.agg (mgV p m),.agg (mgV q m)] w fun e w'=>e = .returned (.bool true)∧Below w.heap.size w w':=by
 have n1:Below w.heap.size w (w.alloc (.cells #[.int .i64 m.k,.int .i64 m.v,.slice p.a2 m.r.length p.c2,.slice p.a3 m.s.length p.c3,.string ⟨⟨m.ho⟩⟩,.slice p.a5 m.pr.length p.c5,.slice p.a6 m.ti.length p.c6,.int .i64 m.ag,.int .i64 m.ea,.slice p.a9 m.bi.length p.c9,.bool m.rs,.slice p.a11 m.ce.length p.c11,.slice p.a12 m.pf.length p.c12] 26)):=(Below.refl _ _).alloc (Nat.le_refl _) _
 have z1:(w.alloc (.cells #[.int .i64 m.k,.int .i64 m.v,.slice p.a2 m.r.length p.c2,.slice p.a3 m.s.length p.c3,.string ⟨⟨m.ho⟩⟩,.slice p.a5 m.pr.length p.c5,.slice p.a6 m.ti.length p.c6,.int .i64 m.ag,.int .i64 m.ea,.slice p.a9 m.bi.length p.c9,.bool m.rs,.slice p.a11 m.ce.length p.c11,.slice p.a12 m.pf.length p.c12] 26)).heap.size=w.heap.size+1:=by simp
 have n2:Below w.heap.size w ((w.alloc (.cells #[.int .i64 m.k,.int .i64 m.v,.slice p.a2 m.r.length p.c2,.slice p.a3 m.s.length p.c3,.string ⟨⟨m.ho⟩⟩,.slice p.a5 m.pr.length p.c5,.slice p.a6 m.ti.length p.c6,.int .i64 m.ag,.int .i64 m.ea,.slice p.a9 m.bi.length p.c9,.bool m.rs,.slice p.a11 m.ce.length p.c11,.slice p.a12 m.pf.length p.c12] 26)).alloc (.cells #[.int .i64 m.k,.int .i64 m.v,.slice q.a2 m.r.length q.c2,.slice q.a3 m.s.length q.c3,.string ⟨⟨m.ho⟩⟩,.slice q.a5 m.pr.length q.c5,.slice q.a6 m.ti.length q.c6,.int .i64 m.ag,.int .i64 m.ea,.slice q.a9 m.bi.length q.c9,.bool m.rs,.slice q.a11 m.ce.length q.c11,.slice q.a12 m.pf.length q.c12] 26)):=n1.alloc (by omega) _
 have T0:RwC ((w.alloc (.cells #[.int .i64 m.k,.int .i64 m.v,.slice p.a2 m.r.length p.c2,.slice p.a3 m.s.length p.c3,.string ⟨⟨m.ho⟩⟩,.slice p.a5 m.pr.length p.c5,.slice p.a6 m.ti.length p.c6,.int .i64 m.ag,.int .i64 m.ea,.slice p.a9 m.bi.length p.c9,.bool m.rs,.slice p.a11 m.ce.length p.c11,.slice p.a12 m.pf.length p.c12] 26)).alloc (.cells #[.int .i64 m.k,.int .i64 m.v,.slice q.a2 m.r.length q.c2,.slice q.a3 m.s.length q.c3,.string ⟨⟨m.ho⟩⟩,.slice q.a5 m.pr.length q.c5,.slice q.a6 m.ti.length q.c6,.int .i64 m.ag,.int .i64 m.ea,.slice q.a9 m.bi.length q.c9,.bool m.rs,.slice q.a11 m.ce.length q.c11,.slice q.a12 m.pf.length q.c12] 26)) w.heap.size [.int .i64 m.k,.int .i64 m.v,.slice p.a2 m.r.length p.c2,.slice p.a3 m.s.length p.c3,.string ⟨⟨m.ho⟩⟩,.slice p.a5 m.pr.length p.c5,.slice p.a6 m.ti.length p.c6,.int .i64 m.ag,.int .i64 m.ea,.slice p.a9 m.bi.length p.c9,.bool m.rs,.slice p.a11 m.ce.length p.c11,.slice p.a12 m.pf.length p.c12] 26:=(RwC.new w _ _).push _
 have U0:RwC ((w.alloc (.cells #[.int .i64 m.k,.int .i64 m.v,.slice p.a2 m.r.length p.c2,.slice p.a3 m.s.length p.c3,.string ⟨⟨m.ho⟩⟩,.slice p.a5 m.pr.length p.c5,.slice p.a6 m.ti.length p.c6,.int .i64 m.ag,.int .i64 m.ea,.slice p.a9 m.bi.length p.c9,.bool m.rs,.slice p.a11 m.ce.length p.c11,.slice p.a12 m.pf.length p.c12] 26)).alloc (.cells #[.int .i64 m.k,.int .i64 m.v,.slice q.a2 m.r.length q.c2,.slice q.a3 m.s.length q.c3,.string ⟨⟨m.ho⟩⟩,.slice q.a5 m.pr.length q.c5,.slice q.a6 m.ti.length q.c6,.int .i64 m.ag,.int .i64 m.ea,.slice q.a9 m.bi.length q.c9,.bool m.rs,.slice q.a11 m.ce.length q.c11,.slice q.a12 m.pf.length q.c12] 26)) (w.heap.size+1) [.int .i64 m.k,.int .i64 m.v,.slice q.a2 m.r.length q.c2,.slice q.a3 m.s.length q.c3,.string ⟨⟨m.ho⟩⟩,.slice q.a5 m.pr.length q.c5,.slice q.a6 m.ti.length q.c6,.int .i64 m.ag,.int .i64 m.ea,.slice q.a9 m.bi.length q.c9,.bool m.rs,.slice q.a11 m.ce.length q.c11,.slice q.a12 m.pf.length q.c12] 26:=by
  have h:=RwC.new (w.alloc (.cells #[.int .i64 m.k,.int .i64 m.v,.slice p.a2 m.r.length p.c2,.slice p.a3 m.s.length p.c3,.string ⟨⟨m.ho⟩⟩,.slice p.a5 m.pr.length p.c5,.slice p.a6 m.ti.length p.c6,.int .i64 m.ag,.int .i64 m.ea,.slice p.a9 m.bi.length p.c9,.bool m.rs,.slice p.a11 m.ce.length p.c11,.slice p.a12 m.pf.length p.c12] 26)) [.int .i64 m.k,.int .i64 m.v,.slice q.a2 m.r.length q.c2,.slice q.a3 m.s.length q.c3,.string ⟨⟨m.ho⟩⟩,.slice q.a5 m.pr.length q.c5,.slice q.a6 m.ti.length q.c6,.int .i64 m.ag,.int .i64 m.ea,.slice q.a9 m.bi.length q.c9,.bool m.rs,.slice q.a11 m.ce.length q.c11,.slice q.a12 m.pf.length q.c12] 26
  rwa [z1] at h
 have HP:=hide (h.up n2)
 have HQ:=hide (h'.up n2)
 have N2:=hide n2
 have TT:=hide T0
 have UU:=hide U0
 have e0:((m.ce.length:Int) != (m.ce.length:Int))=false:=by simp
 have II:=hide i
 have cL:=i.ceL
 clear n1 n2 T0 U0 h h' i
 unfold mgV
 go_enter Tryz.func9,Tryz.ntmps9
 go_upto_region 1 with fail
 try rw [z1]
 clear z1
 generalize (w.alloc (.cells #[.int .i64 m.k,.int .i64 m.v,.slice p.a2 m.r.length p.c2,.slice p.a3 m.s.length p.c3,.string ⟨⟨m.ho⟩⟩,.slice p.a5 m.pr.length p.c5,.slice p.a6 m.ti.length p.c6,.int .i64 m.ag,.int .i64 m.ea,.slice p.a9 m.bi.length p.c9,.bool m.rs,.slice p.a11 m.ce.length p.c11,.slice p.a12 m.pf.length p.c12] 26)).alloc (.cells #[.int .i64 m.k,.int .i64 m.v,.slice q.a2 m.r.length q.c2,.slice q.a3 m.s.length q.c3,.string ⟨⟨m.ho⟩⟩,.slice q.a5 m.pr.length q.c5,.slice q.a6 m.ti.length q.c6,.int .i64 m.ag,.int .i64 m.ea,.slice q.a9 m.bi.length q.c9,.bool m.rs,.slice q.a11 m.ce.length q.c11,.slice q.a12 m.pf.length q.c12] 26)=W at *
 have T:=TT.out
 have U:=UU.out
 have x0:W.cell? ⟨w.heap.size,0,none⟩=some (.int .i64 m.k):=T.cell 0
 have x1:W.cell? ⟨w.heap.size,1,none⟩=some (.int .i64 m.v):=T.cell 1
 have x2:W.cell? ⟨w.heap.size,2,none⟩=some (.slice p.a2 m.r.length p.c2):=T.cell 2
 have x3:W.cell? ⟨w.heap.size,3,none⟩=some (.slice p.a3 m.s.length p.c3):=T.cell 3
 have x4:W.cell? ⟨w.heap.size,4,none⟩=some (.string ⟨⟨m.ho⟩⟩):=T.cell 4
 have x5:W.cell? ⟨w.heap.size,5,none⟩=some (.slice p.a5 m.pr.length p.c5):=T.cell 5
 have x6:W.cell? ⟨w.heap.size,6,none⟩=some (.slice p.a6 m.ti.length p.c6):=T.cell 6
 have x7:W.cell? ⟨w.heap.size,7,none⟩=some (.int .i64 m.ag):=T.cell 7
 have x8:W.cell? ⟨w.heap.size,8,none⟩=some (.int .i64 m.ea):=T.cell 8
 have x9:W.cell? ⟨w.heap.size,9,none⟩=some (.slice p.a9 m.bi.length p.c9):=T.cell 9
 have x10:W.cell? ⟨w.heap.size,10,none⟩=some (.bool m.rs):=T.cell 10
 have x11:W.cell? ⟨w.heap.size,11,none⟩=some (.slice p.a11 m.ce.length p.c11):=T.cell 11
 have x12:W.cell? ⟨w.heap.size,12,none⟩=some (.slice p.a12 m.pf.length p.c12):=T.cell 12
 have y0:W.cell? ⟨w.heap.size+1,0,none⟩=some (.int .i64 m.k):=U.cell 0
 have y1:W.cell? ⟨w.heap.size+1,1,none⟩=some (.int .i64 m.v):=U.cell 1
 have y2:W.cell? ⟨w.heap.size+1,2,none⟩=some (.slice q.a2 m.r.length q.c2):=U.cell 2
 have y3:W.cell? ⟨w.heap.size+1,3,none⟩=some (.slice q.a3 m.s.length q.c3):=U.cell 3
 have y4:W.cell? ⟨w.heap.size+1,4,none⟩=some (.string ⟨⟨m.ho⟩⟩):=U.cell 4
 have y5:W.cell? ⟨w.heap.size+1,5,none⟩=some (.slice q.a5 m.pr.length q.c5):=U.cell 5
 have y6:W.cell? ⟨w.heap.size+1,6,none⟩=some (.slice q.a6 m.ti.length q.c6):=U.cell 6
 have y7:W.cell? ⟨w.heap.size+1,7,none⟩=some (.int .i64 m.ag):=U.cell 7
 have y8:W.cell? ⟨w.heap.size+1,8,none⟩=some (.int .i64 m.ea):=U.cell 8
 have y9:W.cell? ⟨w.heap.size+1,9,none⟩=some (.slice q.a9 m.bi.length q.c9):=U.cell 9
 have y10:W.cell? ⟨w.heap.size+1,10,none⟩=some (.bool m.rs):=U.cell 10
 have y11:W.cell? ⟨w.heap.size+1,11,none⟩=some (.slice q.a11 m.ce.length q.c11):=U.cell 11
 have y12:W.cell? ⟨w.heap.size+1,12,none⟩=some (.slice q.a12 m.pf.length q.c12):=U.cell 12
 clear T U
 go_upto_region 4 with fail
 go_loopw [5] (fun j wr=>∃ (k:Nat),k≤m.ce.length∧j = .int .i64 k∧Below W.heap.size W wr) (fun j _=>m.ce.length - (intOf j).toNat)
 case atStart=>exact ⟨0,Nat.zero_le _,rfl,Below.refl _ _⟩
 case round =>
  clear x0 x1 x2 x3 x4 x5 x6 x7 x8 x9 x10 x11 x12 y0 y1 y2 y3 y4 y5 y6 y7 y8 y9 y10 y11 y12
  obtain ⟨k,hk,rfl,nb⟩:=hrel
  have T:=TT.out.up nb
  have U:=UU.out.up nb
  by_cases hlt:k < m.ce.length
  ·have hp := HP.out.up nb
   have hq:=HQ.out.up nb
   obtain ⟨off,ha,hc⟩:=hp.ce.r (by omega)
   obtain ⟨off',ha',hc'⟩:=hq.ce.r (by omega)
   have t0:(k:Int) < (m.ce.length:Int):=by omega
   have c1:=hc k hlt
   have c2:=hc' k hlt
   have LS:=hide (lwSame_same wr.drew _ _ _ _ (p.ps.getD k plb0).c (q.ps.getD k plb0).c _ ((hp.ce.b k hlt).up (Below.refl _ _).drew) ((hq.ce.b k hlt).up (Below.refl _ _).drew))
   have b11:wr.cell? ⟨w.heap.size,11,none⟩=some (.slice p.a11 m.ce.length p.c11):=T.cell 11
   have d11:wr.cell? ⟨w.heap.size+1,11,none⟩=some (.slice q.a11 m.ce.length q.c11):=U.cell 11
   rw [ha] at b11
   rw [ha'] at d11
   have NB:=hide nb
   clear hc hc' nb hp hq T U ha ha'
   generalize (p.ps.getD k plb0).a=pa at *
   generalize (p.ps.getD k plb0).c=pc at *
   generalize (q.ps.getD k plb0).a=qa at *
   generalize (q.ps.getD k plb0).c=qc at *
   generalize (m.ce.getD k []).length=ml at *
   go_upto_region 6 with fail
   go_region_law (first
    | (go_simp;go_at_call 13;refine LS.out.mono ?_;rintro e V0 ⟨rfl,rfl⟩)
    | fail)
   all_goals
    go_wp2
    go_roundw
    case rel=>exact ⟨k+1,by omega,by first | rfl | go_num,NB.out.drew⟩
    case measure=>simp [intOf];omega
  ·obtain rfl : k = m.ce.length := by omega
   have x0:wr.cell? ⟨w.heap.size,0,none⟩=some (.int .i64 m.k):=T.cell 0
   have x1:wr.cell? ⟨w.heap.size,1,none⟩=some (.int .i64 m.v):=T.cell 1
   have x2:wr.cell? ⟨w.heap.size,2,none⟩=some (.slice p.a2 m.r.length p.c2):=T.cell 2
   have x3:wr.cell? ⟨w.heap.size,3,none⟩=some (.slice p.a3 m.s.length p.c3):=T.cell 3
   have x4:wr.cell? ⟨w.heap.size,4,none⟩=some (.string ⟨⟨m.ho⟩⟩):=T.cell 4
   have x5:wr.cell? ⟨w.heap.size,5,none⟩=some (.slice p.a5 m.pr.length p.c5):=T.cell 5
   have x6:wr.cell? ⟨w.heap.size,6,none⟩=some (.slice p.a6 m.ti.length p.c6):=T.cell 6
   have x7:wr.cell? ⟨w.heap.size,7,none⟩=some (.int .i64 m.ag):=T.cell 7
   have x8:wr.cell? ⟨w.heap.size,8,none⟩=some (.int .i64 m.ea):=T.cell 8
   have x9:wr.cell? ⟨w.heap.size,9,none⟩=some (.slice p.a9 m.bi.length p.c9):=T.cell 9
   have x10:wr.cell? ⟨w.heap.size,10,none⟩=some (.bool m.rs):=T.cell 10
   have x11:wr.cell? ⟨w.heap.size,11,none⟩=some (.slice p.a11 m.ce.length p.c11):=T.cell 11
   have x12:wr.cell? ⟨w.heap.size,12,none⟩=some (.slice p.a12 m.pf.length p.c12):=T.cell 12
   have y0:wr.cell? ⟨w.heap.size+1,0,none⟩=some (.int .i64 m.k):=U.cell 0
   have y1:wr.cell? ⟨w.heap.size+1,1,none⟩=some (.int .i64 m.v):=U.cell 1
   have y2:wr.cell? ⟨w.heap.size+1,2,none⟩=some (.slice q.a2 m.r.length q.c2):=U.cell 2
   have y3:wr.cell? ⟨w.heap.size+1,3,none⟩=some (.slice q.a3 m.s.length q.c3):=U.cell 3
   have y4:wr.cell? ⟨w.heap.size+1,4,none⟩=some (.string ⟨⟨m.ho⟩⟩):=U.cell 4
   have y5:wr.cell? ⟨w.heap.size+1,5,none⟩=some (.slice q.a5 m.pr.length q.c5):=U.cell 5
   have y6:wr.cell? ⟨w.heap.size+1,6,none⟩=some (.slice q.a6 m.ti.length q.c6):=U.cell 6
   have y7:wr.cell? ⟨w.heap.size+1,7,none⟩=some (.int .i64 m.ag):=U.cell 7
   have y8:wr.cell? ⟨w.heap.size+1,8,none⟩=some (.int .i64 m.ea):=U.cell 8
   have y9:wr.cell? ⟨w.heap.size+1,9,none⟩=some (.slice q.a9 m.bi.length q.c9):=U.cell 9
   have y10:wr.cell? ⟨w.heap.size+1,10,none⟩=some (.bool m.rs):=U.cell 10
   have y11:wr.cell? ⟨w.heap.size+1,11,none⟩=some (.slice q.a11 m.ce.length q.c11):=U.cell 11
   have y12:wr.cell? ⟨w.heap.size+1,12,none⟩=some (.slice q.a12 m.pf.length q.c12):=U.cell 12
   have hp:=HP.out.up nb
   have hq:=HQ.out.up nb
   have l2:=hide (lwSame_same wr _ _ _ _ p.c2 q.c2 _ hp.r hq.r)
   have l3:=hide (lwSame_same wr _ _ _ _ p.c3 q.c3 _ hp.s hq.s)
   have l5:=hide (lwSameTexts_same wr _ _ _ _ p.c5 q.c5 _ hp.pr hq.pr II.out.prL)
   have NB:=hide nb
   clear T U hp hq
   go_wp2_with fail
   refine l2.out.mono ?_
   rintro e V0 ⟨rfl,rfl⟩
   go_wp2_with fail
   refine l3.out.mono ?_
   rintro e V0 ⟨rfl,rfl⟩
   go_wp2_with fail
   refine l5.out.mono ?_
   rintro e V1 ⟨rfl,nT⟩
   clear l2 l3 l5 x0 x1 x2 x3 x4 x5 x6 x7 x8 x9 x10 x11 x12 y0 y1 y2 y3 y4 y5 y6 y7 y8 y9 y10 y11 y12
   have n3:=nxt NB.out nT
   have T:=TT.out.up n3
   have U:=UU.out.up n3
   have x0:V1.cell? ⟨w.heap.size,0,none⟩=some (.int .i64 m.k):=T.cell 0
   have x1:V1.cell? ⟨w.heap.size,1,none⟩=some (.int .i64 m.v):=T.cell 1
   have x2:V1.cell? ⟨w.heap.size,2,none⟩=some (.slice p.a2 m.r.length p.c2):=T.cell 2
   have x3:V1.cell? ⟨w.heap.size,3,none⟩=some (.slice p.a3 m.s.length p.c3):=T.cell 3
   have x4:V1.cell? ⟨w.heap.size,4,none⟩=some (.string ⟨⟨m.ho⟩⟩):=T.cell 4
   have x5:V1.cell? ⟨w.heap.size,5,none⟩=some (.slice p.a5 m.pr.length p.c5):=T.cell 5
   have x6:V1.cell? ⟨w.heap.size,6,none⟩=some (.slice p.a6 m.ti.length p.c6):=T.cell 6
   have x7:V1.cell? ⟨w.heap.size,7,none⟩=some (.int .i64 m.ag):=T.cell 7
   have x8:V1.cell? ⟨w.heap.size,8,none⟩=some (.int .i64 m.ea):=T.cell 8
   have x9:V1.cell? ⟨w.heap.size,9,none⟩=some (.slice p.a9 m.bi.length p.c9):=T.cell 9
   have x10:V1.cell? ⟨w.heap.size,10,none⟩=some (.bool m.rs):=T.cell 10
   have x11:V1.cell? ⟨w.heap.size,11,none⟩=some (.slice p.a11 m.ce.length p.c11):=T.cell 11
   have x12:V1.cell? ⟨w.heap.size,12,none⟩=some (.slice p.a12 m.pf.length p.c12):=T.cell 12
   have y0:V1.cell? ⟨w.heap.size+1,0,none⟩=some (.int .i64 m.k):=U.cell 0
   have y1:V1.cell? ⟨w.heap.size+1,1,none⟩=some (.int .i64 m.v):=U.cell 1
   have y2:V1.cell? ⟨w.heap.size+1,2,none⟩=some (.slice q.a2 m.r.length q.c2):=U.cell 2
   have y3:V1.cell? ⟨w.heap.size+1,3,none⟩=some (.slice q.a3 m.s.length q.c3):=U.cell 3
   have y4:V1.cell? ⟨w.heap.size+1,4,none⟩=some (.string ⟨⟨m.ho⟩⟩):=U.cell 4
   have y5:V1.cell? ⟨w.heap.size+1,5,none⟩=some (.slice q.a5 m.pr.length q.c5):=U.cell 5
   have y6:V1.cell? ⟨w.heap.size+1,6,none⟩=some (.slice q.a6 m.ti.length q.c6):=U.cell 6
   have y7:V1.cell? ⟨w.heap.size+1,7,none⟩=some (.int .i64 m.ag):=U.cell 7
   have y8:V1.cell? ⟨w.heap.size+1,8,none⟩=some (.int .i64 m.ea):=U.cell 8
   have y9:V1.cell? ⟨w.heap.size+1,9,none⟩=some (.slice q.a9 m.bi.length q.c9):=U.cell 9
   have y10:V1.cell? ⟨w.heap.size+1,10,none⟩=some (.bool m.rs):=U.cell 10
   have y11:V1.cell? ⟨w.heap.size+1,11,none⟩=some (.slice q.a11 m.ce.length q.c11):=U.cell 11
   have y12:V1.cell? ⟨w.heap.size+1,12,none⟩=some (.slice q.a12 m.pf.length q.c12):=U.cell 12
   have hp:=HP.out.up n3
   have hq:=HQ.out.up n3
   have l6:=hide (lwSame_same V1 _ _ _ _ p.c6 q.c6 _ hp.ti hq.ti)
   have l9:=hide (lwSame_same V1 _ _ _ _ p.c9 q.c9 _ hp.bi hq.bi)
   have l12:=hide (lwSame_same V1 _ _ _ _ p.c12 q.c12 _ hp.pf hq.pf)
   have NF:=hide (nxt N2.out n3)
   clear T U hp hq n3 nT
   go_wp2_with fail
   refine l6.out.mono ?_
   rintro e V2 ⟨rfl,rfl⟩
   go_wp2_with fail
   refine l9.out.mono ?_
   rintro e V2 ⟨rfl,rfl⟩
   go_wp2_with fail
   refine l12.out.mono ?_
   rintro e V2 ⟨rfl,rfl⟩
   go_wp2
   go_ret
   exact ⟨rfl,NF.out⟩
end Go.Proofs.YtmmbkkfjiaoeiaaGreat
namespace Go.Proofs.YtmmbkkfjiaoeiaaGreat
open Go.RowKit
set_option maxHeartbeats 400000 in
theorem lwCopyO_any (w : World) (g : Nat) (a : Option Addr) (cap : Nat) (xs : List Int) (hr : Rd w g a .u8 xs) (hc : a = none → cap = 0) (hn : xs.length ≤ 1048576) :
    Calls Tryz.prog 11 #[.slice a xs.length cap] w fun e w'=>∃ v,e = .returned v∧w'.ownsRow w.heap.size 5 1 v xs.length (xs.map (Value.int .u8))∧Below w.heap.size w w':=by
  obtain ⟨i0,hi,hz0,hz1,hz2⟩:=info_parts Tryz.info5
  have hown:(w.alloc (.cells #[] 5)).ownsRow w.heap.size 5 1 (.slice (some ⟨w.heap.size,0,none⟩) 0 0) 0 []:=World.ownsRow_lit w #[] 0 (Nat.le_refl _) (by unfold maxLen;omega) (by simp)
  have hal:Below w.heap.size w (w.alloc (.cells #[] 5)):=(Below.refl _ _).alloc (Nat.le_refl _) _
  cases a with
  | none =>
    obtain rfl:xs=[]:=by
      by_cases h0:0 < xs.length
      · obtain ⟨off, h, _⟩ := hr h0
        simp at h
      · exact List.eq_nil_of_length_eq_zero (by omega)
    obtain rfl:=hc rfl
    go_enter Tryz.func11,Tryz.ntmps11
    go_wp2_with (at_builtin;refine wpList_append_own_none rfl _ _ 22 rfl w.heap.size 5 i0 1 Tryz.underlying22 hi _ 0 [] rfl hown rfl ?_)
    go_ret
    exact ⟨_,rfl,hown,hal⟩
  | some ad =>
    have hcell:∀ j u,(xs.map (Value.int .u8))[j]?=some u→(w.alloc (.cells #[] 5)).cell? (ad.add j)=some u:=by
      intro j u hj
      have hjl:j < xs.length:=by
        have:=(List.getElem?_eq_some_iff.1 hj).1
        simpa using this
      obtain ⟨off,ha,hcc⟩:=(hr.up hal) (by omega)
      simp only [Option.some.injEq] at ha
      subst ha
      rw [Addr.add_mid,hcc j hjl]
      simpa [hjl] using hj
    have hone:∀ u ∈ xs.map (Value.int .u8),u.oneCell'=true:=by
      intro u hu
      obtain ⟨x,_,rfl⟩:=List.mem_map.1 hu
      rfl
    go_enter Tryz.func11,Tryz.ntmps11
    go_wp2_with (at_builtin;refine wpList_append_own _ rfl _ _ 22 rfl w.heap.size 5 i0 (.int .u8 0) 1 1 Tryz.underlying22 hi hz0 hz1 hz2 rfl (by decide) (.slice (some ⟨w.heap.size,0,none⟩) 0 0) 0 [] rfl hown ad xs.length cap (xs.map (Value.int .u8)) rfl (by simp) hcell hone (by unfold maxLen;omega) (by omega) (by simp) ?_;intro v' w1 hown' hgrow _)
    simp only [Nat.zero_add,List.nil_append] at hown'
    have hB:Below w.heap.size w w1:=hal.grown hgrow (by simp) (by intro k hk;simp [Value.ownBlock] at hk;omega)
    clear hgrow hown
    go_wp2
    go_ret
    exact ⟨_,rfl,hown',hB⟩
end Go.Proofs.YtmmbkkfjiaoeiaaGreat
namespace Go.Proofs.YtmmbkkfjiaoeiaaGreat
open Go Go.RowKit
theorem rangeU {w w':World} {b o:Nat} {cs:List Value} (h:w.rangeAt b o cs) (n:Below w.heap.size w w'):w'.rangeAt b o cs:=fun j v hj=>(n.cell (block_lt_of_cell (h j v hj))).trans (h j v hj)
def FMq (m:Msg):Fact:=⟨fun v w=>∃ q,v = .agg (mgV q m)∧HasM w q m,fun n h=>by
 obtain ⟨q,e,h⟩:=h
 exact ⟨q,e,h.up n⟩⟩
def FRs (cd:Int):Fact:=⟨fun v _=>∃ p m n,v = .agg (rsV cd p m n),fun _ h=>h⟩
def FRd (ys:List Int):Fact:=⟨fun v w=>∃ (a:Option Addr) (c g:Nat),v = .slice a ys.length c∧Rd w g a .u8 ys,fun n h=>by
 obtain ⟨a,c,g,e,h⟩:=h
 exact ⟨a,c,g,e,h.up n⟩⟩
section
variable {P : Program} {ops : Array Oper} {Q : Exit → Act → World → Prop} {md : Region.Mode} {F : Nat → Fact} {a0 : Act} {w0 : World} {i : Nat} {o : Oper} {ts : Array TypeId}
theorem step_call1 (hi:ops[i]?=some o) (n:FuncId) (p j:Nat) (hop:o.op = .call { callee := .value (.func n),args := #[.tmp p],argTypes:=ts }) (he:enters P n=true) (hj:waits md ops i j p=true)
  (C:∀ W x,Below w0.heap.size w0 W→(F j).p x W→Calls P n #[x] W fun e w'=>∃ v,e = .returned v∧Below W.heap.size W w'∧(F i).p v w'):StepOk P md ops Q F a0 w0 i:=by
 refine step_callv hi n _ ts hop he fun A w _ hw hF=>?_
 show Calls P n #[A.tmps.getD p undef] w _
 exact C w _ hw (hF j p hj)
theorem step_call2 (hi:ops[i]?=some o) (n:FuncId) (p q j k:Nat) (hop:o.op = .call { callee := .value (.func n),args := #[.tmp p,.tmp q],argTypes:=ts }) (he:enters P n=true) (hj:waits md ops i j p=true) (hk:waits md ops i k q=true)
  (C:∀ W x y,Below w0.heap.size w0 W→(F j).p x W→(F k).p y W→Calls P n #[x,y] W fun e w'=>∃ v,e = .returned v∧Below W.heap.size W w'∧(F i).p v w'):StepOk P md ops Q F a0 w0 i:=by
 refine step_callv hi n _ ts hop he fun A w _ hw hF=>?_
 show Calls P n #[A.tmps.getD p undef,A.tmps.getD q undef] w _
 exact C w _ _ hw (hF j p hj) (hF k q hk)
theorem step_ldM (hi:ops[i]?=some o) (p j:Nat) (hop:o.op = .load 26 (.tmp p)) (hj:waits md ops i j p=true) {b off:Nat} {q:MQ} {m:Msg} (hFj:F j=Fact.eq (.pointer (some ⟨b,off,none⟩))) (T:w0.rangeAt b off (mgV q m).toList) (hF:F i=Fact.eq (.agg (mgV q m))):StepOk Tryz.prog md ops Q F a0 w0 i:=by
 obtain ⟨d,hu,hr⟩:=rowM
 refine step_load hi _ _ hop _ 13 hu hr iM fun a w hb hw hf=>?_
 have e:=hf j p hj
 rw [hFj] at e
 exact ⟨b,off,(mgV q m).toList,e,rangeU T hw,rfl,by rw [hF];rfl⟩
theorem step_notq (hi:ops[i]?=some o) (p j:Nat) {b:Bool} {t:TypeId} (hop:o.op = .unOp .not t (.tmp p)) (hj:waits md ops i j p=true) (hFj:F j=Fact.eq (.bool b)) (hFi:F i=Fact.eq (.bool (!b))):StepOk P md ops Q F a0 w0 i:=by
 refine step_pure hi fun a w _ _ hf=>⟨.bool (!b),?_,by rw [hFi];exact rfl⟩
 have e:=hf j p hj
 rw [hFj] at e
 have e':a.eval (.tmp p) = .bool b:=e
 simp only [execOp,hop,e']
 rfl
theorem step_code (hi:ops[i]?=some o) (p j:Nat) {cd:Int} (hop:o.op = .field 31 (.tmp p) 0) (hj:waits md ops i j p=true) (hFj:F j=FRs cd) (hFi:F i=Fact.eq (.int .i64 cd)):StepOk Tryz.prog md ops Q F a0 w0 i:=by
 refine step_pure hi fun a w _ _ hf=>⟨.int .i64 cd,?_,by rw [hFi];exact rfl⟩
 have e:=hf j p hj
 rw [hFj] at e
 obtain ⟨q,m,n,e⟩:=e
 have e':a.eval (.tmp p) = .agg (rsV cd q m n):=e
 simp only [execOp,hop,e',Sem.run_bind,field_code,Result.andThen_ok,Sem.run_pure]
theorem step_cut (hi:ops[i]?=some o) (p q r j k l:Nat) {ya:Option Addr} {n yc x y:Nat} (hop:o.op = .slice 22 (.tmp p) (some (.tmp q)) (some (.tmp r)) none) (hj:waits md ops i j p=true) (hk:waits md ops i k q=true) (hl:waits md ops i l r=true)
  (hFj:F j=Fact.eq (.slice ya n yc)) (hFk:F k=Fact.eq (.int .i64 (x:Int))) (hFl:F l=Fact.eq (.int .i64 (y:Int))) (xy:x≤y) (yc':y≤yc) (H:∀ W,Below w0.heap.size w0 W→(F i).p (.slice (slA ya x yc) (y - x) (yc - x)) W):StepOk Tryz.prog md ops Q F a0 w0 i:=by
 refine step_pure hi fun a w _ hw hf=>⟨_,?_,H w hw⟩
 have e1:=hf j p hj
 rw [hFj] at e1
 have e1':a.eval (.tmp p) = .slice ya n yc:=e1
 have e2:=hf k q hk
 rw [hFk] at e2
 have e2':a.eval (.tmp q) = .int .i64 (x:Int):=e2
 have e3:=hf l r hl
 rw [hFl] at e3
 have e3':a.eval (.tmp r) = .int .i64 (y:Int):=e3
 have h:=sl_both w ya n yc x y (y - x) xy yc' rfl
 simp only [execOp,hop,Option.map,e1',e2',e3',Sem.run_bind,h,Result.andThen_ok,Sem.run_pure]
end
theorem draw_Q (w:World) (g:Nat) (a:Option Addr) (c:Nat) (xs:List Int) (hr:Rd w g a .u8 xs) (hb:Byt xs) (hl:xs.length≤1048576) :
  Calls Tryz.prog 4 #[.slice a xs.length c] w fun e w'=>(∃ q,e = .returned (.agg (mgV q (mbF xs)))∧HasM w' q (mbF xs)∧HasZ q (mbF xs))∧IsM (mbF xs)∧Below w.heap.size w w':=by
 refine (drawEnc_M w g a c xs hr hb (by omega)).mono ?_
 rintro e w' ⟨⟨v0,v1,v2,v3,v4,v5,v6,v7,v8,v9,v10,v11,v12,rfl,M⟩,n⟩
 obtain ⟨p,em,HM,IM,HZ⟩:=M.msg
 rw [em]
 exact ⟨⟨p,rfl,HM,HZ⟩,IM,n⟩
theorem rs_part {w:World} {b:Nat} {cd:Int} {p:MQ} {m:Msg} {n:Int} (h:RwC w b (rsV cd p m n).toList 31):w.rangeAt b 1 (mgV p m).toList:=by
 have R:=h.rangeG
 intro j v hj
 have hj13:j < 13:=by
  have h13:(mgV p m).toList.length=13:=rfl
  have:=(List.getElem?_eq_some_iff.1 hj).1
  omega
 have e:(rsV cd p m n).toList[1+j]?=some v:=by
  rw [← hj]
  have:j=0∨j=1∨j=2∨j=3∨j=4∨j=5∨j=6∨j=7∨j=8∨j=9∨j=10∨j=11∨j=12:=by omega
  rcases this with rfl | rfl | rfl | rfl | rfl | rfl | rfl | rfl | rfl | rfl | rfl | rfl | rfl <;> rfl
 have r:=R (1+j) v e
 rwa [Nat.zero_add] at r
theorem box15 (W:World) (cd:Int) (p:MQ) (m:Msg) (n:Int):(W.alloc (.cells #[.int .i64 0,.int .i64 0,.int .i64 0,.slice none 0 0,.slice none 0 0,.string ⟨#[]⟩,.slice none 0 0,.slice none 0 0,.int .i64 0,.int .i64 0,.slice none 0 0,.bool false,.slice none 0 0,.slice none 0 0,.int .i64 0] 31)).there W.heap.size 0 15∧(#[.int .i64 cd,.int .i64 m.k,.int .i64 m.v,.slice p.a2 m.r.length p.c2,.slice p.a3 m.s.length p.c3,.string ⟨⟨m.ho⟩⟩,.slice p.a5 m.pr.length p.c5,.slice p.a6 m.ti.length p.c6,.int .i64 m.ag,.int .i64 m.ea,.slice p.a9 m.bi.length p.c9,.bool m.rs,.slice p.a11 m.ce.length p.c11,.slice p.a12 m.pf.length p.c12,.int .i64 n]:Array Value).all (·.oneCell')=true∧∃ V,V=(W.alloc (.cells #[.int .i64 0,.int .i64 0,.int .i64 0,.slice none 0 0,.slice none 0 0,.string ⟨#[]⟩,.slice none 0 0,.slice none 0 0,.int .i64 0,.int .i64 0,.slice none 0 0,.bool false,.slice none 0 0,.slice none 0 0,.int .i64 0] 31)).setCells W.heap.size 0 [.int .i64 cd,.int .i64 m.k,.int .i64 m.v,.slice p.a2 m.r.length p.c2,.slice p.a3 m.s.length p.c3,.string ⟨⟨m.ho⟩⟩,.slice p.a5 m.pr.length p.c5,.slice p.a6 m.ti.length p.c6,.int .i64 m.ag,.int .i64 m.ea,.slice p.a9 m.bi.length p.c9,.bool m.rs,.slice p.a11 m.ce.length p.c11,.slice p.a12 m.pf.length p.c12,.int .i64 n]∧RwC V W.heap.size (rsV cd p m n).toList 31∧Below W.heap.size W V :=
 have ZA:RwC (W.alloc (.cells #[.int .i64 0,.int .i64 0,.int .i64 0,.slice none 0 0,.slice none 0 0,.string ⟨#[]⟩,.slice none 0 0,.slice none 0 0,.int .i64 0,.int .i64 0,.slice none 0 0,.bool false,.slice none 0 0,.slice none 0 0,.int .i64 0] 31)) W.heap.size [.int .i64 0,.int .i64 0,.int .i64 0,.slice none 0 0,.slice none 0 0,.string ⟨#[]⟩,.slice none 0 0,.slice none 0 0,.int .i64 0,.int .i64 0,.slice none 0 0,.bool false,.slice none 0 0,.slice none 0 0,.int .i64 0] 31:=RwC.new _ _ _
 ⟨ZA.thereG,one15m cd p m n,_,rfl,RwC.put ZA rfl,((Below.refl _ _).alloc (Nat.le_refl _) _).trans ((only_setG _ W.heap.size [.int .i64 cd,.int .i64 m.k,.int .i64 m.v,.slice p.a2 m.r.length p.c2,.slice p.a3 m.s.length p.c3,.string ⟨⟨m.ho⟩⟩,.slice p.a5 m.pr.length p.c5,.slice p.a6 m.ti.length p.c6,.int .i64 m.ag,.int .i64 m.ea,.slice p.a9 m.bi.length p.c9,.bool m.rs,.slice p.a11 m.ce.length p.c11,.slice p.a12 m.pf.length p.c12,.int .i64 n] 0).below (Nat.le_refl _))⟩
end Go.Proofs.YtmmbkkfjiaoeiaaGreat
