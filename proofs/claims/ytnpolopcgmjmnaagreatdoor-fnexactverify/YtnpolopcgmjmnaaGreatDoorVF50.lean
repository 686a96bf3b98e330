import Derived.Test.YtnpolopcgmjmnaaGreatDoorVF49
import Derived.LaidEql
import Derived.Stop.Asserts
import Derived.RowKitTokens
import Derived.LaidHandle
namespace Go.Proofs.YtnpolopcgmjmnaaGreatDoor
set_option maxRecDepth 100000
open Go Go.RowKit
abbrev prC (b:Bool) (a a':Option Addr) (n n' c c':Nat):List Value:=[.bool b,.slice a n c,.slice a' n' c']
theorem prC_one (b:Bool) (a a':Option Addr) (n n' c c':Nat):(prC b a a' n n' c c').toArray.all (·.oneCell')=true:=by simp [Value.oneCell']
theorem vf_bad {ps ms ss:List Int} {n:Int} (h:rsN ps ss=n) (h0:n≠0):vfV ps ms ss=n:=by
 unfold vfV
 rw [h,if_neg h0]
theorem range_up {W W':World} {q off:Nat} {cs:List Value} (h:W.rangeAt q off cs) (h0:0 < cs.length) (n:Below W.heap.size W W'):W'.rangeAt q off cs:=fun j v hj =>
 (World.cell?_of_block (a:=⟨q,off+j,none⟩) (n.block q (block_lt_of_cell (h 0 (cs[0]'h0) (List.getElem?_eq_getElem _))))).trans (h j v hj)
theorem fxP1 (q:Nat) (w:World):(Instr.fieldAt 29 (.pointer (some ⟨q,1,none⟩)) 0).run Tryz.prog w = .ok (.pointer (some ⟨q,1,none⟩)) w:=by kernel_rfl
theorem fyP1 (q:Nat) (w:World):(Instr.fieldAt 29 (.pointer (some ⟨q,1,none⟩)) 1).run Tryz.prog w = .ok (.pointer (some ⟨q,2,none⟩)) w:=by kernel_rfl
theorem fPR1 (q:Nat) (w:World):(Instr.fieldAt 31 (.pointer (some ⟨q,0,none⟩)) 1).run Tryz.prog w = .ok (.pointer (some ⟨q,1,none⟩)) w:=by kernel_rfl
theorem step_fldo {P:Program} {ops:Array Oper} {Q:Exit→Act→World→Prop} {md:Region.Mode} {F:Nat→Fact} {a0:Act} {w0:World} {i:Nat} {o:Oper} (hi:ops[i]?=some o) (ty:TypeId) (p f j:Nat) (hop:o.op = .fieldAddr ty (.tmp p) f) (hj:waits md ops i j p=true) (q of1 off:Nat) (hFj:F j=Fact.eq (.pointer (some ⟨q,of1,none⟩)))
  (hr:∀ w,(Instr.fieldAt ty (.pointer (some ⟨q,of1,none⟩)) f).run P w = .ok (.pointer (some ⟨q,off,none⟩)) w) (hF:F i=Fact.eq (.pointer (some ⟨q,off,none⟩))):StepOk P md ops Q F a0 w0 i:=by
 refine step_pure hi fun a w hb _ hf=>⟨_,?_,by rw [hF];exact rfl⟩
 have e:=hf j p hj
 rw [hFj] at e
 have e':a.eval (.tmp p) = .pointer (some ⟨q,of1,none⟩):=e
 simp [execOp,hop,e',hr]
theorem rd8 (w:World):Rd (w.alloc (.cells #[.int .u8 8] 5)) w.heap.size (some ⟨w.heap.size,0,none⟩) .u8 [8]:=fun _=>⟨0,rfl,fun i hi=>by
 obtain rfl:i=0:=by simp at hi;omega
 simp [World.cell?_alloc_at]⟩
theorem byt8:Byt [8]:=fun j=>by
 match j with
 | 0=>exact ⟨by decide,by decide⟩
 | j+1=>exact ⟨by simp,by simp⟩
set_option maxRecDepth 100000 in
set_option maxHeartbeats 8000000 in
theorem specVerify_any (w : World) (g : Nat) (a : Option Addr) (c : Nat) (ps : List Int) (hr : Rd w g a .u8 ps) (hb : Byt ps) (kp : a = none → c = 0) (gm : Nat) (am : Option Addr) (cm : Nat) (ms : List Int) (hm : Rd w gm am .u8 ms) (bm : Byt ms) (km : am = none → cm = 0) (lm : ms.length ≤ 1048576) (gs : Nat) (aS : Option Addr) (cS : Nat) (ss : List Int) (hs : Rd w gs aS .u8 ss) (bs : Byt ss) (ks : ss.length ≤ cS) :
    Calls Tryz.prog 4 #[.slice a ps.length c,.slice am ms.length cm,.slice aS ss.length cS] w fun r w'=>r = .returned (.int .i64 (vfV ps ms ss))∧Below w.heap.size w w':=by
  have N:Below w.heap.size w w:=Below.refl _ _
  by_cases hl:ps.length=32
  · by_cases hn : ss.length = 64
    · rw [hn] at ks
      obtain ⟨o,rfl,hd⟩:=hs.dropA 32 (by omega)
      have ht:=hs.takeA 32
      have ld:(ss.drop 32).length=32:=by rw [List.length_drop];omega
      have lt:(ss.take 32).length=32:=by rw [List.length_take];omega
      have bd:=byt_drop bs 32
      have bt:=byt_takeh bs 32
      have OV:=hide fun W (n:Below w.heap.size w W)=>specOrderValid_any W gs _ (cS - 32) _ (hd.up n) bd
      have DP:=hide fun W (n:Below w.heap.size w W)=>specDecode_any W g a c ps (hr.up n) hb kp
      have DS:=hide fun W (n:Below w.heap.size w W)=>specDecode_any W gs _ cS _ (ht.up n) bt (fun h=>by cases h)
      have E:Hid (rsN ps ss=if ovalid (ss.drop 32)=false then 2 else if dcB ps=false then 3 else if dcB (ss.take 32)=false then 4 else 0):=by
        show _=_
        unfold rsN
        rw [if_neg (by simp [hl]),if_neg (by simp [hn])]
      have EV:Hid (vfV ps ms ss=if rsN ps ss=0 then ckN (dcP ps) (dcP (ss.take 32)) (num (ss.drop 32)).toNat (hsN (ss.take 32 ++ (ps ++ ms))) else rsN ps ss):=rfl
      have SH:∀ W,(Instr.sliceAt 22 (.slice (some ⟨gs,o,none⟩) 64 cS) none (some (.int .i64 32)) none).run Tryz.prog W = .ok (.slice (some ⟨gs,o,none⟩) 32 cS) W:=fun W=>by have:=sl_high W (some ⟨gs,o,none⟩) 64 cS 32 (by omega);rw [slA_0] at this;exact this
      have SL:∀ W,(Instr.sliceAt 22 (.slice (some ⟨gs,o,none⟩) 64 cS) (some (.int .i64 32)) none none).run Tryz.prog W = .ok (.slice (some ⟨gs,o+32,none⟩) 32 (cS - 32)) W:=fun W=>by have:=sl_low W (some ⟨gs,o,none⟩) 64 cS 32 32 (by omega) (by omega) rfl;rw [slA_32 _ _ _ ks] at this;exact this
      have PVP:=hide (fun h=>pv_dc hb h)
      have PVS:=hide (fun h=>pv_dc bt h)
      have HD:=hide hd
      have HT:=hide ht
      have HR:=hide hr
      have HM:=hide hm
      have BD:=hide bd
      have BT:=hide bt
      have BP:=hide hb
      have BM:=hide bm
      have LD:=hide ld
      have LT:=hide lt
      have LP:=hide hl
      have LM:=hide lm
      have KP:=hide kp
      have KM:=hide km
      rw [ld] at OV
      rw [lt] at DS
      rw [hl,hn]
      rw [hl] at DP
      obtain ⟨ov,hov⟩:∃ b,b=ovalid (ss.drop 32):=⟨_,rfl⟩
      obtain ⟨gP,hgP⟩:∃ b,b=dcB ps:=⟨_,rfl⟩
      obtain ⟨gS,hgS⟩:∃ b,b=dcB (ss.take 32):=⟨_,rfl⟩
      rw [← hov] at OV E
      rw [← hgP] at DP E PVP
      rw [← hgS] at DS E PVS
      clear hs hr hb bs bd bt ht hd ld lt hl hn hm bm lm kp km hov hgP hgS
      go_enter Tryz.func4,Tryz.ntmps4
      go_wp2_with (first
        | (refine wpList_slT w rfl 22 (.tmp 24) _ _ rfl _ _ _ rfl rfl rfl _ (SH w) ?_)
        | (refine wpList_slT w rfl 22 (.tmp 26) _ _ rfl _ _ _ rfl rfl rfl _ (SL w) ?_)
        | fail)
      refine (OV.out w N).mono ?_
      rintro r w1 ⟨rfl,n1⟩
      replace N:=nxt N n1
      clear n1 OV
      cases ov with
      | false =>
        go_wp2
        go_ret
        exact ⟨by rw [EV.out,E.out];rfl,N⟩
      | true =>
        go_wp2_with fail
        refine (DP.out w1 N).mono ?_
        rintro r w2 ⟨⟨a1,a2,c1,c2,g1,g2,rfl,o1,o2,q1,q2⟩,n2⟩
        replace N:=nxt N n2
        clear n2 DP
        have na:Below w2.heap.size w2 (w2.alloc prObj):=(Below.refl _ _).alloc (Nat.le_refl _) _
        have ta:(w2.alloc prObj).there w2.heap.size 0 3:=there_new w2 _ _
        generalize hX1:dcX ps=X1 at *
        generalize hY1:dcY ps=Y1 at *
        have ns:Below w2.heap.size w2 ((w2.alloc prObj).setCells w2.heap.size 0 (prC gP a1 a2 X1.length Y1.length c1 c2)):=na.trans ((only_setCells _ _ _ 0).below (Nat.le_refl _))
        have RG:=hide (World.rangeAt_setCells_same (w2.alloc prObj) w2.heap.size 0 (prC gP a1 a2 X1.length Y1.length c1 c2) ta)
        have O1:=hide (o1.rd.up ns)
        have O2:=hide (o2.rd.up ns)
        replace N:=nxt N ns
        clear na ns o1 o2 q1 q2
        go_upto_region 8 with (refine wpList_store_mid rfl 31 (.tmp 9) (.tmp 32) rfl w2.heap.size 0 (prC gP a1 a2 X1.length Y1.length c1 c2).toArray rfl rfl ta i3R (prC_one _ _ _ _ _ _ _) ?_)
        generalize (w2.alloc prObj).setCells w2.heap.size 0 (prC gP a1 a2 X1.length Y1.length c1 c2)=w3 at *
        generalize w2.heap.size=q9 at *
        clear ta
        have b0:w3.cell? ⟨q9,0,none⟩=some (.bool gP):=RG.out 0 _ rfl
        cases gP with
        | false =>
          go_wp2
          go_ret
          exact ⟨by rw [EV.out,E.out];rfl,N⟩
        | true =>
          obtain ⟨pvP,eX,eY⟩:=PVP.out rfl
          subst eX
          subst eY
          rw [lx_len,ly_len] at RG
          go_wp2_with fail
          refine (DS.out w3 N).mono ?_
          rintro r w4 ⟨⟨a3,a4,c3,c4,g3,g4,rfl,o3,o4,q3,q4⟩,n4⟩
          have RP4:=hide (range_up RG.out (Nat.succ_pos 2) n4)
          have P1:=hide (O1.out.up n4)
          have P2:=hide (O2.out.up n4)
          replace N:=nxt N n4
          clear n4 DS RG O1 O2 b0 PVP
          have na:Below w4.heap.size w4 (w4.alloc prObj):=(Below.refl _ _).alloc (Nat.le_refl _) _
          have ta:(w4.alloc prObj).there w4.heap.size 0 3:=there_new w4 _ _
          generalize hX2:dcX (ss.take 32)=X2 at *
          generalize hY2:dcY (ss.take 32)=Y2 at *
          have ns:Below w4.heap.size w4 ((w4.alloc prObj).setCells w4.heap.size 0 (prC gS a3 a4 X2.length Y2.length c3 c4)):=na.trans ((only_setCells _ _ _ 0).below (Nat.le_refl _))
          have RS:=hide (World.rangeAt_setCells_same (w4.alloc prObj) w4.heap.size 0 (prC gS a3 a4 X2.length Y2.length c3 c4) ta)
          have RP:=hide (range_up RP4.out (Nat.succ_pos 2) ns)
          have O3:=hide (o3.rd.up ns)
          have O4:=hide (o4.rd.up ns)
          replace P1:=hide (P1.out.up ns)
          replace P2:=hide (P2.out.up ns)
          replace N:=nxt N ns
          clear na ns o3 o4 q3 q4 RP4
          go_upto_region 11 with (refine wpList_store_mid rfl 31 (.tmp 10) (.tmp 37) rfl w4.heap.size 0 (prC gS a3 a4 X2.length Y2.length c3 c4).toArray rfl rfl ta i3R (prC_one _ _ _ _ _ _ _) ?_)
          generalize (w4.alloc prObj).setCells w4.heap.size 0 (prC gS a3 a4 X2.length Y2.length c3 c4)=w5 at *
          generalize w4.heap.size=q10 at *
          clear ta
          have b0:w5.cell? ⟨q10,0,none⟩=some (.bool gS):=RS.out 0 _ rfl
          cases gS with
          | false =>
            go_wp2
            go_ret
            exact ⟨by rw [EV.out,E.out];rfl,N⟩
          | true =>
            obtain ⟨pvS,eX,eY⟩:=PVS.out rfl
            subst eX
            subst eY
            rw [lx_len,ly_len] at RS
            have E0:Hid (vfV ps ms ss=ckN (dcP ps) (dcP (ss.take 32)) (num (ss.drop 32)).toNat (hsN (ss.take 32 ++ (ps ++ ms)))):=by
              show _=_
              rw [EV.out,if_pos (by rw [E.out];rfl)]
            have PVP:=hide pvP
            have PVS':=hide pvS
            clear PVS EV E pvP pvS hX1 hY1 hX2 hY2
            obtain ⟨fsP,hdP⟩:=uP
            have n8:Below w5.heap.size w5 (w5.alloc (.cells #[.int .u8 8] 5)):=(Below.refl _ _).alloc (Nat.le_refl _) _
            have TJ:=hide (timesJ (w5.alloc (.cells #[.int .u8 8] 5)) w5.heap.size g1 g2 (some ⟨w5.heap.size,0,none⟩) a1 a2 1 c1 c2 [8] (dcP ps) 8 PVP.out (rd8 w5) byt8 (by decide) (by decide) (P1.out.up n8) (P2.out.up n8))
            have RP6:=hide (range_up RP.out (Nat.succ_pos 2) n8)
            have R9:(w5.alloc (.cells #[.int .u8 8] 5)).rangeAt q9 1 [.slice a1 32 c1,.slice a2 32 c2]:=fun j v hj=>by
              have:=RP6.out (j+1) v (by simpa using hj)
              rw [show 1+j=0+(j+1) by omega]
              exact this
            have RS6:=hide (range_up RS.out (Nat.succ_pos 2) n8)
            have F9:=fPR1 q9
            replace P1:=hide (P1.out.up n8)
            replace P2:=hide (P2.out.up n8)
            replace O3:=hide (O3.out.up n8)
            replace O4:=hide (O4.out.up n8)
            have SMB:=hide (smB_en PVP.out.on)
            have M8:=hide (cm_pv (mlP_on PVP.out.on 8))
            replace N:=nxt N n8
            clear n8 RP RS
            obtain ⟨M,hM⟩:∃ M,M=cmP (mlP 8 (dcP ps)):=⟨_,rfl⟩
            rw [← hM] at SMB M8
            have EM:=hide hM
            clear hM
            go_wp2_with (first | (refine wpList_load_mid rfl 29 (.tmp 42) rfl q9 1 rfl [.slice a1 32 c1,.slice a2 32 c2] _ R9 hdP rfl iP ?_) | fail)
            refine TJ.out.mono ?_
            rintro r w6 ⟨⟨v6,rfl,h6⟩,n6⟩
            have PL:=hide (plainJ w6 v6 _ h6)
            rw [← EM.out] at PL
            have RP7:=hide (range_up RP6.out (Nat.succ_pos 2) n6)
            have RS7:=hide (range_up RS6.out (Nat.succ_pos 2) n6)
            replace P1:=hide (P1.out.up n6)
            replace P2:=hide (P2.out.up n6)
            replace O3:=hide (O3.out.up n6)
            replace O4:=hide (O4.out.up n6)
            replace N:=nxt N n6
            clear TJ RP6 RS6 R9 n6 h6 EM b0
            go_wp2_with fail
            refine PL.out.mono ?_
            rintro r w7 ⟨⟨b1,b2,k1,k2,h1,h2,rfl,y1,y2,-,-⟩,n7⟩
            have EN:=hide (specEncode_any w7 h1 h2 b1 b2 k1 k2 (lx M) (ly M) y1.rd y2.rd (lx_byt M) (ly_byt M) (fun _=>(ly_top M8.out).2))
            rw [es_en M8.out] at EN
            have RP8:=hide (range_up RP7.out (Nat.succ_pos 2) n7)
            have RS8:=hide (range_up RS7.out (Nat.succ_pos 2) n7)
            replace P1:=hide (P1.out.up n7)
            replace P2:=hide (P2.out.up n7)
            replace O3:=hide (O3.out.up n7)
            replace O4:=hide (O4.out.up n7)
            replace N:=nxt N n7
            clear PL RP7 RS7 n7 y1 y2
            go_wp2_with fail
            refine EN.out.mono ?_
            rintro r w8 ⟨⟨a8,c8,g8,rfl,o8,-,-,-⟩,n8⟩
            have PZ:=hide (pointZero_any w8)
            rw [ze_of.1,ze_of.2] at PZ
            have RP9:=hide (range_up RP8.out (Nat.succ_pos 2) n8)
            have RS9:=hide (range_up RS8.out (Nat.succ_pos 2) n8)
            replace P1:=hide (P1.out.up n8)
            replace P2:=hide (P2.out.up n8)
            replace O3:=hide (O3.out.up n8)
            replace O4:=hide (O4.out.up n8)
            replace N:=nxt N n8
            clear EN RP8 RS8 n8
            go_wp2_with fail
            refine PZ.out.mono ?_
            rintro r w9 ⟨⟨b1,b2,k1,k2,h1,h2,rfl,y1,y2,-,-⟩,n9⟩
            have EZ:=hide (specEncode_any w9 h1 h2 b1 b2 k1 k2 (lx pZero) (ly pZero) y1.rd y2.rd (lx_byt _) (ly_byt _) (fun _=>(ly_top pv_zero).2))
            rw [es_en pv_zero] at EZ
            have RPa:=hide (range_up RP9.out (Nat.succ_pos 2) n9)
            have RSa:=hide (range_up RS9.out (Nat.succ_pos 2) n9)
            replace P1:=hide (P1.out.up n9)
            replace P2:=hide (P2.out.up n9)
            replace O3:=hide (O3.out.up n9)
            replace O4:=hide (O4.out.up n9)
            replace o8:=o8.rd.up n9
            replace N:=nxt N n9
            clear PZ RP9 RS9 n9 y1 y2
            go_wp2_with fail
            refine EZ.out.mono ?_
            rintro r wa ⟨⟨aa,ca,ga,rfl,oa,-,-,-⟩,na⟩
            have SA:=hide (l1Same_any wa g8 ga a8 aa c8 ca (en M) (en pZero) (o8.up na) oa.rd (en_byt M8.out) (en_byt pv_zero))
            rw [← SMB.out] at SA
            have RPb:=hide (range_up RPa.out (Nat.succ_pos 2) na)
            have RSb:=hide (range_up RSa.out (Nat.succ_pos 2) na)
            replace P1:=hide (P1.out.up na)
            replace P2:=hide (P2.out.up na)
            replace O3:=hide (O3.out.up na)
            replace O4:=hide (O4.out.up na)
            replace N:=nxt N na
            have E1:Hid (vfV ps ms ss=if smB (dcP ps)=true then 5 else if pEq (mlP (num (ss.drop 32)).toNat (bX,bY)) (addX (dcP (ss.take 32)) (mlP (hsN (ss.take 32 ++ (ps ++ ms))) (dcP ps)),addY (dcP (ss.take 32)) (mlP (hsN (ss.take 32 ++ (ps ++ ms))) (dcP ps)))=true then 0 else 6):=by
              show _=_
              rw [E0.out]
              exact rfl
            clear EZ RPa RSa na o8 oa E0 SMB M8
            obtain ⟨sb,hsb⟩:∃ b,b=smB (dcP ps):=⟨_,rfl⟩
            rw [← hsb] at SA E1
            clear hsb
            go_wp2_with fail
            refine SA.out.mono ?_
            rintro r wb ⟨rfl,rfl⟩
            clear SA
            cases sb with
            | true =>
              go_wp2
              go_ret
              exact ⟨by rw [E1.out];rfl,N⟩
            | false =>
              have JN:=hide (l9Join_any wb gs g gm (some ⟨gs,o,none⟩) a am cS c cm (ss.take 32) ps ms (HT.out.up N) (HR.out.up N) (HM.out.up N) (fun h=>by cases h) KP.out KM.out (by rw [LT.out];decide) (by rw [LP.out];decide) LM.out)
              rw [LT.out,LP.out] at JN
              have BJ:=hide (byt_apd BT.out (byt_apd BP.out BM.out))
              have LJ:Hid ((ss.take 32 ++ (ps ++ ms)).length≤549755813888):=by
                show _≤_
                rw [List.length_append,List.length_append,LT.out,LP.out]
                have:=LM.out
                omega
              go_wp2_with fail
              refine JN.out.mono ?_
              rintro r wc ⟨⟨ac,cc,gc,rfl,oc,pc,-,-⟩,nc⟩
              have HS:=hide (specHash_64 wc gc ac cc _ oc.rd BJ.out pc LJ.out)
              change Hid (Calls _ _ _ _ fun e w'=>NewRow wc.heap.size w' e .u8 (hashL64 (ss.take 32 ++ (ps ++ ms)))∧_) at HS
              have RPc:=hide (range_up RPb.out (Nat.succ_pos 2) nc)
              have RSc:=hide (range_up RSb.out (Nat.succ_pos 2) nc)
              replace P1:=hide (P1.out.up nc)
              replace P2:=hide (P2.out.up nc)
              replace O3:=hide (O3.out.up nc)
              replace O4:=hide (O4.out.up nc)
              replace N:=nxt N nc
              clear nc RPb RSb
              clear JN oc pc BJ LJ
              have HB:=hide (hash64_byt (ss.take 32 ++ (ps ++ ms)))
              have OL:=hide (ored_len32 (ss.take 32 ++ (ps ++ ms)))
              have OB:=hide (ored_byt32 (ss.take 32 ++ (ps ++ ms)))
              have OS:Hid (lsum (fun j=>(ored (hashL64 (ss.take 32 ++ (ps ++ ms)))).getD j 0) (ored (hashL64 (ss.take 32 ++ (ps ++ ms)))).length=(hsN (ss.take 32 ++ (ps ++ ms)):Int)):=by
                show _=_
                rw [← scV_ored,OL.out]
                unfold scV
                have:=lsum_nonneg (byt_bt OB.out) 32
                omega
              generalize hsN (ss.take 32 ++ (ps ++ ms))=kN at *
              obtain ⟨hJ,hhJ⟩:∃ h,h=hashL64 (ss.take 32 ++ (ps ++ ms)):=⟨_,rfl⟩
              rw [← hhJ] at HS HB OL OB OS
              clear hhJ
              generalize ss.take 32 ++ (ps ++ ms)=J at *
              go_wp2_with fail
              refine HS.out.mono ?_
              rintro r wd ⟨⟨ad,cd,gd,rfl,od,pd,-,-⟩,nd⟩
              have OR:=hide (specOrderReduce_any wd gd ad cd hJ od.rd HB.out)
              have RPd:=hide (range_up RPc.out (Nat.succ_pos 2) nd)
              have RSd:=hide (range_up RSc.out (Nat.succ_pos 2) nd)
              replace P1:=hide (P1.out.up nd)
              replace P2:=hide (P2.out.up nd)
              replace O3:=hide (O3.out.up nd)
              replace O4:=hide (O4.out.up nd)
              replace N:=nxt N nd
              clear nd RPc RSc
              clear HS od pd HB
              generalize ored hJ=kL at *
              go_wp2_with fail
              refine OR.out.mono ?_
              rintro r we ⟨⟨ae,ce,ge,rfl,oe,-,-,-⟩,ne⟩
              have RPe:=hide (range_up RPd.out (Nat.succ_pos 2) ne)
              have RSe:=hide (range_up RSd.out (Nat.succ_pos 2) ne)
              replace P1:=hide (P1.out.up ne)
              replace P2:=hide (P2.out.up ne)
              replace O3:=hide (O3.out.up ne)
              replace O4:=hide (O4.out.up ne)
              replace N:=nxt N ne
              clear ne RPd RSd
              have OE:=hide oe.rd
              clear OR oe
              rw [OL.out]
              have BS:=hide (specBase_any we)
              rw [li_base.1,li_base.2] at BS
              go_wp2_with fail
              refine BS.out.mono ?_
              rintro r wf ⟨⟨b1,b2,k1,k2,h1,h2,rfl,y1,y2,-,-⟩,nf⟩
              have VK:Hid (lsum (fun j=>(ss.drop 32).getD j 0) (ss.drop 32).length=((num (ss.drop 32)).toNat:Int)):=by
                show _=_
                have:=num_nonneg BD.out
                have e:num (ss.drop 32)=lsum (fun j=>(ss.drop 32).getD j 0) (ss.drop 32).length:=rfl
                rw [← e]
                omega
              replace OE:=hide (OE.out.up nf)
              have RPf:=hide (range_up RPe.out (Nat.succ_pos 2) nf)
              have RSf:=hide (range_up RSe.out (Nat.succ_pos 2) nf)
              replace P1:=hide (P1.out.up nf)
              replace P2:=hide (P2.out.up nf)
              replace O3:=hide (O3.out.up nf)
              replace O4:=hide (O4.out.up nf)
              replace N:=nxt N nf
              clear nf RPe RSe
              have TV:=hide (timesJ wf gs h1 h2 (some ⟨gs,o+32,none⟩) b1 b2 (cS - 32) k1 k2 (ss.drop 32) (bX,bY) _ pv_base (HD.out.up N) BD.out (by rw [LD.out];decide) VK.out y1.rd y2.rd)
              rw [LD.out] at TV
              clear BS y1 y2 VK
              rw [lx_len,ly_len]
              generalize (num (ss.drop 32)).toNat=vN at *
              go_wp2_with fail
              refine TV.out.mono ?_
              rintro r wg ⟨⟨vg,rfl,hg⟩,ng⟩
              have PL:=hide (plainJ wg vg _ hg)
              replace OE:=hide (OE.out.up ng)
              have RPg:=hide (range_up RPf.out (Nat.succ_pos 2) ng)
              have RSg:=hide (range_up RSf.out (Nat.succ_pos 2) ng)
              replace P1:=hide (P1.out.up ng)
              replace P2:=hide (P2.out.up ng)
              replace O3:=hide (O3.out.up ng)
              replace O4:=hide (O4.out.up ng)
              replace N:=nxt N ng
              clear ng RPf RSf
              clear TV hg
              obtain ⟨LL,hLL⟩:∃ M,M=cmP (mlP vN (bX,bY)):=⟨_,rfl⟩
              rw [← hLL] at PL
              have EL9:=hide hLL
              clear hLL
              go_wp2_with fail
              refine PL.out.mono ?_
              rintro r wh ⟨⟨b1,b2,k1,k2,h1,h2,rfl,y1,y2,-,-⟩,nh⟩
              replace OE:=hide (OE.out.up nh)
              have RPh:=hide (range_up RPg.out (Nat.succ_pos 2) nh)
              have RSh:=hide (range_up RSg.out (Nat.succ_pos 2) nh)
              replace P1:=hide (P1.out.up nh)
              replace P2:=hide (P2.out.up nh)
              replace O3:=hide (O3.out.up nh)
              replace O4:=hide (O4.out.up nh)
              replace N:=nxt N nh
              clear nh RPg RSg
              clear PL
              rw [lx_len,ly_len]
              have na:Below wh.heap.size wh (wh.alloc pObj):=(Below.refl _ _).alloc (Nat.le_refl _) _
              have ta:(wh.alloc pObj).there wh.heap.size 0 2:=there_new wh _ _
              have ns:Below wh.heap.size wh ((wh.alloc pObj).setCells wh.heap.size 0 [.slice b1 32 k1,.slice b2 32 k2]):=na.trans ((only_setCells _ _ _ 0).below (Nat.le_refl _))
              have RL:=hide (World.rangeAt_setCells_same (wh.alloc pObj) wh.heap.size 0 [.slice b1 32 k1,.slice b2 32 k2] ta)
              have L1:=hide (y1.rd.up ns)
              have L2:=hide (y2.rd.up ns)
              replace OE:=hide (OE.out.up ns)
              have RPi:=hide (range_up RPh.out (Nat.succ_pos 2) ns)
              have RSi:=hide (range_up RSh.out (Nat.succ_pos 2) ns)
              replace P1:=hide (P1.out.up ns)
              replace P2:=hide (P2.out.up ns)
              replace O3:=hide (O3.out.up ns)
              replace O4:=hide (O4.out.up ns)
              replace N:=nxt N ns
              clear ns RPh RSh
              clear na y1 y2
              go_upto_region 17 with (refine wpList_store_mid rfl 29 (.tmp 12) (.tmp 59) rfl wh.heap.size 0 #[.slice b1 32 k1,.slice b2 32 k2] rfl rfl ta iP (by simp [Value.oneCell']) ?_)
              generalize (wh.alloc pObj).setCells wh.heap.size 0 [.slice b1 32 k1,.slice b2 32 k2]=wi at *
              generalize wh.heap.size=q12 at *
              clear ta
              refine region_new16 2 1 0 13 60 _ (fun i=>[EL dE,NB wi 16].getD i Fact.no) (dE) (by kernel_rfl) rfl rfl rfl (by kernel_rfl) (by kernel_rfl) rfl rfl ?_ ?_
              · intro i hi
                obtain rfl | rfl:i=0∨i=1:=by omega
                · exact step_d rfl rfl rfl
                · exact step_new16 rfl rfl rfl
              intro vs1 q13 wj v13 h13 nj D13 T13
              have RPj:=hide (range_up RPi.out (Nat.succ_pos 2) nj)
              have RSj:=hide (range_up RSi.out (Nat.succ_pos 2) nj)
              have RLj:=hide (range_up RL.out (Nat.succ_pos 1) nj)
              replace P1:=hide (P1.out.up nj)
              replace P2:=hide (P2.out.up nj)
              replace O3:=hide (O3.out.up nj)
              replace O4:=hide (O4.out.up nj)
              replace L1:=hide (L1.out.up nj)
              replace L2:=hide (L2.out.up nj)
              replace OE:=hide (OE.out.up nj)
              replace N:=nxt N nj
              clear RPi RSi RL
              clear nj T13 h13
              simp only [puts,v13,Act.put,List.setIfInBounds_toArray,List.set_cons_succ,List.set_cons_zero]
              clear v13
              have OX:=hide (of_ok O3.out (lx_byt _) (lx_len _))
              have OY:=hide (of_ok O4.out (ly_byt _) (ly_len _))
              have CX:Hid (wj.cell? ⟨q10,1,none⟩=some (.slice a3 32 c3)):=RSj.out 1 _ rfl
              have CY:Hid (wj.cell? ⟨q10,2,none⟩=some (.slice a4 32 c4)):=RSj.out 2 _ rfl
              go_upto_region 18 with fail
              refine region_new48 11 10 9 14 70 _ (fun i=>[Fact.eq (.pointer (some ⟨q10,1,none⟩)),Fact.eq (.pointer (some ⟨q10,1,none⟩)),Fact.eq (.slice a3 32 c3),EL (num (lx (dcP (ss.take 32)))),Fact.eq (.pointer (some ⟨q10,1,none⟩)),Fact.eq (.pointer (some ⟨q10,2,none⟩)),Fact.eq (.slice a4 32 c4),EL (num (ly (dcP (ss.take 32)))),EL 1,E3 (num (lx (dcP (ss.take 32)))) (num (ly (dcP (ss.take 32)))) (1),NB wj 48].getD i Fact.no) (num (lx (dcP (ss.take 32)))) (num (ly (dcP (ss.take 32)))) (1) (by kernel_rfl) rfl rfl rfl (by kernel_rfl) (by kernel_rfl) rfl rfl ?_ ?_
              · intro i hi
                obtain rfl | rfl | rfl | rfl | rfl | rfl | rfl | rfl | rfl | rfl | rfl:i=0∨i=1∨i=2∨i=3∨i=4∨i=5∨i=6∨i=7∨i=8∨i=9∨i=10:=by omega
                · exact step_fld rfl 31 10 1 rfl (by kernel_rfl) _ _ rfl (fPR1 _) rfl
                · exact step_fldo rfl 29 61 0 0 rfl (by kernel_rfl) _ _ _ rfl (fxP1 _) rfl
                · exact step_lds rfl 62 1 rfl (by kernel_rfl) _ _ rfl _ _ _ CX.out rfl
                · exact step_of rfl 63 2 rfl (by kernel_rfl) OX.out (by rw [lx_len];rfl) rfl
                · exact step_fld rfl 31 10 1 rfl (by kernel_rfl) _ _ rfl (fPR1 _) rfl
                · exact step_fldo rfl 29 65 1 4 rfl (by kernel_rfl) _ _ _ rfl (fyP1 _) rfl
                · exact step_lds rfl 66 5 rfl (by kernel_rfl) _ _ rfl _ _ _ CY.out rfl
                · exact step_of rfl 67 6 rfl (by kernel_rfl) OY.out (by rw [ly_len];rfl) rfl
                · exact step_small rfl 1 (by omega) rfl rfl
                · exact step_b48 rfl 64 68 69 3 7 8 _ _ _ rfl (by kernel_rfl) (by kernel_rfl) (by kernel_rfl) rfl rfl rfl rfl
                · exact step_new48 rfl rfl rfl
              intro vs2 q14 wk v14 h14 nk E14 T14
              rw [lx_num PVS'.out,ly_num PVS'.out] at E14
              have D14:=D13.up nk
              clear OX OY CX CY
              have RPk:=hide (range_up RPj.out (Nat.succ_pos 2) nk)
              have RSk:=hide (range_up RSj.out (Nat.succ_pos 2) nk)
              have RLk:=hide (range_up RLj.out (Nat.succ_pos 1) nk)
              replace P1:=hide (P1.out.up nk)
              replace P2:=hide (P2.out.up nk)
              replace O3:=hide (O3.out.up nk)
              replace O4:=hide (O4.out.up nk)
              replace L1:=hide (L1.out.up nk)
              replace L2:=hide (L2.out.up nk)
              replace OE:=hide (OE.out.up nk)
              replace N:=nxt N nk
              clear RPj RSj RLj
              clear nk T14 h14 D13
              simp only [puts,v14,Act.put,List.setIfInBounds_toArray,List.set_cons_succ,List.set_cons_zero]
              clear v14
              have R9:Hid (wk.rangeAt q9 1 [.slice a1 32 c1,.slice a2 32 c2]):=fun j v hj=>by
                have:=RPk.out (j+1) v (by simpa using hj)
                rw [show 1+j=0+(j+1) by omega]
                exact this
              have MK:=hide (mlP_on PVP.out.on kN)
              have E2:Hid (vfV ps ms ss=if (decide (lx LL=lx (cmP (eadd (-1) d0 einv (dcP (ss.take 32)) (mlP kN (dcP ps))))) && decide (ly LL=ly (cmP (eadd (-1) d0 einv (dcP (ss.take 32)) (mlP kN (dcP ps))))))=true then 0 else 6):=by
                show _=_
                rw [E1.out,ck_sum,EL9.out,pEq_cm]
                rfl
              go_upto_region 19 with fail
              refine region_newPF 9 8 7 15 78 _ (fun i=>[PjE (dcP (ss.take 32)),Fact.eq (.slice ae 32 ce),Fact.eq (.pointer (some ⟨q9,1,none⟩)),Fact.eq (.agg #[.slice a1 32 c1,.slice a2 32 c2]),PjE (mlP kN (dcP ps)),EL dE,PjE (eadd (-1) d0 einv (dcP (ss.take 32)) (mlP kN (dcP ps))),PT wk (fun xs ys=>xs=lx (cmP (eadd (-1) d0 einv (dcP (ss.take 32)) (mlP kN (dcP ps))))∧ys=ly (cmP (eadd (-1) d0 einv (dcP (ss.take 32)) (mlP kN (dcP ps))))),NBp wk].getD i Fact.no) (fun xs ys=>xs=lx (cmP (eadd (-1) d0 einv (dcP (ss.take 32)) (mlP kN (dcP ps))))∧ys=ly (cmP (eadd (-1) d0 einv (dcP (ss.take 32)) (mlP kN (dcP ps))))) (by kernel_rfl) rfl rfl rfl (by kernel_rfl) (by kernel_rfl) rfl rfl ?_ ?_
              · intro i hi
                obtain rfl | rfl | rfl | rfl | rfl | rfl | rfl | rfl | rfl:i=0∨i=1∨i=2∨i=3∨i=4∨i=5∨i=6∨i=7∨i=8:=by omega
                · exact step_e3J rfl 14 rfl (by kernel_rfl) _ rfl E14 rfl
                · exact step_mv rfl 11 rfl (by kernel_rfl) rfl rfl
                · exact step_fld rfl 31 9 1 rfl (by kernel_rfl) _ _ rfl (fPR1 _) rfl
                · exact step_ldR 29 _ [.slice a1 32 c1,.slice a2 32 c2] hdP rfl iP rfl 73 2 rfl (by kernel_rfl) q9 1 rfl R9.out (Nat.succ_pos 1) (fun _=>rfl)
                · exact step_timesJ rfl 72 74 1 3 PVP.out rfl (by kernel_rfl) (by kernel_rfl) OE.out OB.out (by rw [OL.out];decide) OS.out P1.out P2.out (by rw [OL.out];rfl) rfl rfl
                · exact step_el rfl 36 13 rfl Go.Proofs.YtnpolopcgmjmnaaGreatDoor.u50 i50 (by kernel_rfl) _ _ rfl _ D14 rfl
                · exact step_sumJ rfl 71 75 76 0 4 5 PVS'.out.on MK.out rfl (by kernel_rfl) (by kernel_rfl) (by kernel_rfl) rfl rfl rfl rfl
                · exact step_plainJ rfl 77 6 rfl (by kernel_rfl) rfl rfl
                · exact step_newP rfl rfl rfl
              intro vs3 q15 wl xs ys b3 b4 k3 k4 h3 h4 v15 h15 nl RR T15 z3 z4 _ _ hxy _
              obtain ⟨rfl,rfl⟩:=hxy
              rw [lx_len,ly_len] at RR
              generalize cmP (eadd (-1) d0 einv (dcP (ss.take 32)) (mlP kN (dcP ps)))=RT at *
              have RPl:=hide (range_up RPk.out (Nat.succ_pos 2) nl)
              have RSl:=hide (range_up RSk.out (Nat.succ_pos 2) nl)
              have RLl:=hide (range_up RLk.out (Nat.succ_pos 1) nl)
              replace P1:=hide (P1.out.up nl)
              replace P2:=hide (P2.out.up nl)
              replace O3:=hide (O3.out.up nl)
              replace O4:=hide (O4.out.up nl)
              replace L1:=hide (L1.out.up nl)
              replace L2:=hide (L2.out.up nl)
              replace OE:=hide (OE.out.up nl)
              replace N:=nxt N nl
              clear RPk RSk RLk
              clear nl T15 h15 R9 MK E14 D14 OE OB OL OS
              simp only [puts,v15,Act.put,List.setIfInBounds_toArray,List.set_cons_succ,List.set_cons_zero]
              clear v15
              have s0:wl.cell? ⟨q12,0,none⟩=some (.slice b1 32 k1):=RLl.out 0 _ rfl
              have s1:wl.cell? ⟨q12,1,none⟩=some (.slice b2 32 k2):=RLl.out 1 _ rfl
              have u0:wl.cell? ⟨q15,0,none⟩=some (.slice b3 32 k3):=RR 0 _ rfl
              have u1:wl.cell? ⟨q15,1,none⟩=some (.slice b4 32 k4):=RR 1 _ rfl
              have S1:=hide (l1Same_any wl h1 h3 b1 b3 k1 k3 (lx LL) (lx RT) L1.out z3.rd (lx_byt _) (lx_byt _))
              have S2:=hide (l1Same_any wl h2 h4 b2 b4 k2 k4 (ly LL) (ly RT) L2.out z4.rd (ly_byt _) (ly_byt _))
              rw [lx_len,lx_len] at S1
              rw [ly_len,ly_len] at S2
              clear RR RPl RSl RLl P1 P2 O3 O4 L1 L2 z3 z4
              generalize decide (lx LL=lx RT)=d1 at *
              generalize decide (ly LL=ly RT)=d2 at *
              go_wp2_with fail
              refine S1.out.mono ?_
              rintro r wm ⟨rfl,rfl⟩
              clear S1
              cases d1 with
              | false =>
                go_wp2
                go_ret
                exact ⟨by rw [E2.out];rfl,N⟩
              | true =>
                go_wp2_with fail
                refine S2.out.mono ?_
                rintro r wm ⟨rfl,rfl⟩
                clear S2
                cases d2 with
                | false =>
                  go_wp2
                  go_ret
                  exact ⟨by rw [E2.out];rfl,N⟩
                | true =>
                  go_wp2
                  go_ret
                  exact ⟨by rw [E2.out];rfl,N⟩
    · have E : Hid (vfV ps ms ss = 1) := vf_bad (by unfold rsN; rw [if_neg (by simp [hl]), if_pos hn]) (by decide)
      have t0:((ss.length:Int) != 64)=true:=by simp;omega
      have t1:((ps.length:Int) != 32)=false:=by simp;omega
      clear hl hn
      go_enter Tryz.func4,Tryz.ntmps4
      go_wp2
      go_ret
      exact ⟨by rw [E.out];rfl,N⟩
  · have E : Hid (vfV ps ms ss = 1) := vf_bad (by unfold rsN; rw [if_pos hl]) (by decide)
    have t1:((ps.length:Int) != 32)=true:=by simp;omega
    clear hl
    go_enter Tryz.func4,Tryz.ntmps4
    go_wp2
    go_ret
    exact ⟨by rw [E.out];rfl,N⟩
end Go.Proofs.YtnpolopcgmjmnaaGreatDoor
namespace Go.Proofs.YtnpolopcgmjmnaaGreatDoor
set_option maxRecDepth 100000
open Go Go.RowKit Go.Extern.Stop Go.Stop Go.Extern
theorem As.valueOfP (t:Addr) (w:World):(ReflectliteValue.unpack (.iface 51 (.pointer (some t)))).run Tryz.prog w
  = .ok (.agg #[.pointer (some ⟨14,51,none⟩),.pointer (some ⟨w.heap.size,0,none⟩),.int .u64 150]) (w.alloc (.cells #[.pointer (some t)] 51)):=by kernel_rfl
theorem As.typeP (a : Addr) (w : World) : (ReflectliteValue.methodAny (ReflectliteValue.valueError "reflectlite.Value.Type" 0) (fun t _ _ _ => ReflectliteType.toType t) #[.agg #[.pointer (some ⟨14, 51, none⟩), .pointer (some a), .int .u64 150]]).run Tryz.prog w
  = .ok (.iface 110 (.agg #[.pointer (some ⟨14,51,none⟩)])) w:=by kernel_rfl
theorem As.methodKind (h : Value) (w : World) : (Go.method 333 110 (.agg #[h]) "Kind").run Tryz.prog w = .ok (154, h) w := by kernel_rfl
theorem As.kindP (w:World):((ReflectliteType.abiMethod fun t=>(fun a:Nat=>Value.int IntKind.u8 (a:Int)) <$> Rtype.kind t) #[.pointer (some ⟨14,51,none⟩)]).run Tryz.prog w = .ok (.int .u8 22) w:=by kernel_rfl
theorem As.kindF (w:World):((ReflectliteType.abiMethod fun t=>(fun a:Nat=>Value.int IntKind.u8 (a:Int)) <$> Rtype.kind t) #[.pointer (some ⟨14,46,none⟩)]).run Tryz.prog w = .ok (.int .u8 6) w:=by kernel_rfl
theorem As.partsP (a:Addr) (w:World):(ReflectliteValue.parts (.agg #[.pointer (some ⟨14,51,none⟩),.pointer (some a),.int .u64 150])).run Tryz.prog w = .ok (some (51,a,150)) w:=by kernel_rfl
theorem As.isNilP (a p:Addr) (W:World) (ha:W.cell? a=some (.pointer (some p))) :
  (ReflectliteValue.method (ReflectliteValue.valueError "reflectlite.Value.IsNil" 0) ReflectliteValue.isNil #[.agg #[.pointer (some ⟨14, 51, none⟩), .pointer (some a), .int .u64 150]]).run Tryz.prog W = .ok (.bool false) W := by
 refine (Sem.run_bind _ _ (ReflectliteValue.parts (.agg #[.pointer (some ⟨14,51,none⟩),.pointer (some a),.int .u64 150])) _).trans ?_
 simp only [As.partsP,Result.andThen]
 simp [ReflectliteValue.isNil,loadVar,isAgg,underlying,Tryz.underlying51,ha,Result.andThen]
theorem As.methodElem (h : Value) (w : World) : (Go.method 333 110 (.agg #[h]) "Elem").run Tryz.prog w = .ok (168, .agg #[h]) w := by kernel_rfl
theorem As.methodImplements (h : Value) (w : World) : (Go.method 333 110 (.agg #[h]) "Implements").run Tryz.prog w = .ok (169, .agg #[h]) w := by kernel_rfl
theorem As.methodAssignableTo (h : Value) (w : World) : (Go.method 333 110 (.agg #[h]) "AssignableTo").run Tryz.prog w = .ok (166, .agg #[h]) w := by kernel_rfl
theorem As.elemP (w:World):(ReflectliteType.method ReflectliteType.elem #[.agg #[.pointer (some ⟨14,51,none⟩)]]).run Tryz.prog w = .ok (.iface 110 (.agg #[.pointer (some ⟨14,46,none⟩)])) w:=by kernel_rfl
theorem As.implementsF (w : World) : (ReflectliteType.relation "Implements" ReflectliteType.implements_ #[.agg #[.pointer (some ⟨14, 46, none⟩)], .iface 110 (.agg #[.pointer (some ⟨14, 49, none⟩)])]).run Tryz.prog w = .ok (.bool true) w := by kernel_rfl
theorem As.typeOfF (v:Value) (w:World):(ReflectliteType.typeOf #[.iface 46 v]).run Tryz.prog w = .ok (.iface 110 (.agg #[.pointer (some ⟨14,46,none⟩)])) w:=by kernel_rfl
theorem As.typeOfS (v:Value) (w:World):(ReflectliteType.typeOf #[.iface 93 v]).run Tryz.prog w = .ok (.iface 110 (.agg #[.pointer (some ⟨14,93,none⟩)])) w:=by kernel_rfl
theorem As.assignableF (w : World) : (ReflectliteType.relation "AssignableTo" ReflectliteType.assignableTo #[.agg #[.pointer (some ⟨14, 46, none⟩)], .iface 110 (.agg #[.pointer (some ⟨14, 46, none⟩)])]).run Tryz.prog w = .ok (.bool true) w := by kernel_rfl
theorem As.assignableS (w : World) : (ReflectliteType.relation "AssignableTo" ReflectliteType.assignableTo #[.agg #[.pointer (some ⟨14, 93, none⟩)], .iface 110 (.agg #[.pointer (some ⟨14, 46, none⟩)])]).run Tryz.prog w = .ok (.bool false) w := by kernel_rfl
theorem As.valueOfF (n:Int) (w:World):(ReflectliteValue.unpack (.iface 46 (.int .i64 n))).run Tryz.prog w
  = .ok (.agg #[.pointer (some ⟨14,46,none⟩),.pointer (some ⟨w.heap.size,0,none⟩),.int .u64 134]) (w.alloc (.cells #[.int .i64 n] 46)):=by kernel_rfl
theorem As.elemOfP (w:World):(Rtype.elem? 51).run Tryz.prog w = .ok (some 46) w:=by kernel_rfl
theorem As.mkF (p:Addr) (w:World):(ReflectliteValue.mk 46 p ReflectliteValue.flagAddr).run Tryz.prog w = .ok (.agg #[.pointer (some ⟨14,46,none⟩),.pointer (some p),.int .u64 390]) w:=by kernel_rfl
theorem As.elemV (a p:Addr) (W:World) (ha:W.cell? a=some (.pointer (some p))) :
  (ReflectliteValue.method (ReflectliteValue.valueError "reflectlite.Value.Elem" 0) ReflectliteValue.elem #[.agg #[.pointer (some ⟨14, 51, none⟩), .pointer (some a), .int .u64 150]]).run Tryz.prog W
   = .ok (.agg #[.pointer (some ⟨14,46,none⟩),.pointer (some p),.int .u64 390]) W:=by
 refine (Sem.run_bind _ _ (ReflectliteValue.parts (.agg #[.pointer (some ⟨14,51,none⟩),.pointer (some a),.int .u64 150])) _).trans ?_
 simp only [As.partsP,Result.andThen]
 simp [ReflectliteValue.elem,loadVar,isAgg,underlying,Tryz.underlying51,ha,Result.andThen,As.elemOfP,As.mkF]
theorem As.partsFa (a:Addr) (w:World):(ReflectliteValue.parts (.agg #[.pointer (some ⟨14,46,none⟩),.pointer (some a),.int .u64 390])).run Tryz.prog w = .ok (some (46,a,390)) w:=by kernel_rfl
theorem As.partsF (a:Addr) (w:World):(ReflectliteValue.parts (.agg #[.pointer (some ⟨14,46,none⟩),.pointer (some a),.int .u64 134])).run Tryz.prog w = .ok (some (46,a,134)) w:=by kernel_rfl
theorem As.directF (w:World):(Rtype.directlyAssignable 46 46).run Tryz.prog w = .ok true w:=by kernel_rfl
theorem As.setF (ta b:Addr) (n:Int) (old:Value) (W:World) (hb:W.cell? b=some (.int .i64 n)) (ht:W.cell? ta=some old) (hf:W.frozen? ta=false) :
  (ReflectliteValue.set #[.agg #[.pointer (some ⟨14,46,none⟩),.pointer (some ta),.int .u64 390],.agg #[.pointer (some ⟨14,46,none⟩),.pointer (some b),.int .u64 134]]).run Tryz.prog W
   = .ok (.tuple #[]) (W.setCell ta (.int .i64 n)):=by
 refine (Sem.run_bind _ _ (ReflectliteValue.parts (.agg #[.pointer (some ⟨14,46,none⟩),.pointer (some ta),.int .u64 390])) _).trans ?_
 rw [As.partsFa]
 refine (Sem.run_bind _ _ (ReflectliteValue.parts (.agg #[.pointer (some ⟨14,46,none⟩),.pointer (some b),.int .u64 134])) _).trans ?_
 simp only [As.partsF,Result.andThen]
 simp [ReflectliteValue.flagAddr,loadVar,isAgg,underlying,Tryz.underlying46,hb,Result.andThen,As.directF,storeVar,Value.cells,storeCells,Addr.add]
 rw [run_store Tryz.prog W ta _ _ (by rfl)]
 simp [ht,hf]
theorem As.noAsS (v:Value) (xT:TypeId) (w:World):(Instr.typeAssert (.iface 93 v) xT 115 true).run Tryz.prog w = .ok (.tuple #[.nilIface,.bool false]) w:=run_typeAssert_lacksB Tryz.underlying115 (by kernel_rfl) (by kernel_rfl) v xT w
theorem As.unwS (v:Value) (xT:TypeId) (w:World):(Instr.typeAssert (.iface 93 v) xT 118 true).run Tryz.prog w = .ok (.tuple #[.iface 93 v,.bool true]) w:=run_typeAssert_hasB Tryz.underlying118 (by kernel_rfl) v xT w
theorem As.methodUnwrap (v : Value) (w : World) : (Go.method 333 93 v "Unwrap").run Tryz.prog w = .ok (164, v) w := by kernel_rfl
end Go.Proofs.YtnpolopcgmjmnaaGreatDoor
namespace Go.Proofs.YtnpolopcgmjmnaaGreatDoor
set_option maxRecDepth 100000
open Go Go.RowKit Go.Extern.Stop Go.Stop Go.Extern
set_option maxRecDepth 100000 in
set_option maxHeartbeats 8000000 in
theorem as_hit (n:Int) (s:ByteArray) (q:Nat) (old:Value) (w:World) (hg:w.cell? ⟨0,0,none⟩=some (.iface 110 (.agg #[.pointer (some ⟨14,49,none⟩)]))) (ht0:w.cell? ⟨q,0,none⟩=some old) (hf0:w.frozen? ⟨q,0,none⟩=false) :
  Calls Tryz.prog 23 #[.iface 93 (.agg #[.string s,.iface 46 (.int .i64 n)]),.iface 51 (.pointer (some ⟨q,0,none⟩))] w fun ev w'=>ev = .returned (.bool true)∧w'.cell? ⟨q,0,none⟩=some (.int .i64 n)∧Below q w w':=by
 have h6 := @run_callFunc_extern Tryz.prog 44 _ (fun args=>ReflectliteValue.unpack (args.getD 0 (.tuple #[]))) Tryz.func44 (by kernel_rfl) (by kernel_rfl) (by kernel_rfl) (by kernel_rfl)
 have h7 := @run_callFunc_extern Tryz.prog 45 _ (ReflectliteValue.methodAny (ReflectliteValue.valueError "reflectlite.Value.Type" 0) (fun t _ _ _ => ReflectliteType.toType t)) Tryz.func45 (by kernel_rfl) (by kernel_rfl) (by kernel_rfl) (by kernel_rfl)
 have h8 := @run_callFunc_extern Tryz.prog 46 _ (ReflectliteValue.method (ReflectliteValue.valueError "reflectlite.Value.IsNil" 0) ReflectliteValue.isNil) Tryz.func46 (by kernel_rfl) (by kernel_rfl) (by kernel_rfl) (by kernel_rfl)
 have h27 := @run_callFunc_extern Tryz.prog 154 _ (ReflectliteType.abiMethod fun t=>do pure (.int .u8 (← Rtype.kind t))) Tryz.func154 (by kernel_rfl) (by kernel_rfl) (by kernel_rfl) (by kernel_rfl)
 have h37 := @run_callFunc_extern Tryz.prog 168 _ (ReflectliteType.method ReflectliteType.elem) Tryz.func168 (by kernel_rfl) (by kernel_rfl) (by kernel_rfl) (by kernel_rfl)
 have h38 := @run_callFunc_extern Tryz.prog 169 _ (ReflectliteType.relation "Implements" ReflectliteType.implements_) Tryz.func169 (by kernel_rfl) (by kernel_rfl) (by kernel_rfl) (by kernel_rfl)
 have h10 := @run_callFunc_extern Tryz.prog 66 _ ReflectliteType.typeOf Tryz.func66 (by kernel_rfl) (by kernel_rfl) (by kernel_rfl) (by kernel_rfl)
 have h35 := @run_callFunc_extern Tryz.prog 166 _ (ReflectliteType.relation "AssignableTo" ReflectliteType.assignableTo) Tryz.func166 (by kernel_rfl) (by kernel_rfl) (by kernel_rfl) (by kernel_rfl)
 have h11 := @run_callFunc_extern Tryz.prog 67 _ (ReflectliteValue.method (ReflectliteValue.valueError "reflectlite.Value.Elem" 0) ReflectliteValue.elem) Tryz.func67 (by kernel_rfl) (by kernel_rfl) (by kernel_rfl) (by kernel_rfl)
 have h12 := @run_callFunc_extern Tryz.prog 68 _ ReflectliteValue.set Tryz.func68 (by kernel_rfl) (by kernel_rfl) (by kernel_rfl) (by kernel_rfl)
 have tO:=As.typeOfF
 have tS:=As.typeOfS
 have mA:=As.methodAssignableTo
 have aF:=As.assignableF
 have aS:=As.assignableS
 have vF:=As.valueOfF
 have f6:=As.valueOfP
 have f7:=As.typeP
 have mK:=As.methodKind
 have mE:=As.methodElem
 have mI:=As.methodImplements
 have mU:=As.methodUnwrap
 have kP:=As.kindP
 have kF:=As.kindF
 have eP:=As.elemP
 have iF:=As.implementsF
 have nS:=As.noAsS
 have uS:=As.unwS
 have hlt:0 < w.heap.size:=block_lt_of_cell hg
 have htl:q < w.heap.size:=block_lt_of_cell ht0
 have lt1:∀ (o:Obj) (W:World) (a:Addr),a.block < W.heap.size→(W.alloc o).cell? a=W.cell? a:=fun o W a h=>World.cell?_alloc_lt W o a h
 have n8:=As.isNilP ⟨w.heap.size,0,none⟩ ⟨q,0,none⟩ ((w.alloc (.cells #[.pointer (some ⟨q,0,none⟩)] 51)).alloc (.cells #[.pointer (some ⟨14,51,none⟩),.pointer (some ⟨w.heap.size,0,none⟩),.int .u64 150] 72)) (by rw [World.cell?_alloc_lt _ _ ⟨w.heap.size,0,none⟩ (by simp)];simp [World.cell?_alloc_at])
 have hg2:((w.alloc (.cells #[.pointer (some ⟨q,0,none⟩)] 51)).alloc (.cells #[.pointer (some ⟨14,51,none⟩),.pointer (some ⟨w.heap.size,0,none⟩),.int .u64 150] 72)).cell? ⟨0,0,none⟩=some (.iface 110 (.agg #[.pointer (some ⟨14,49,none⟩)])):=by
  rw [World.cell?_alloc_lt _ _ ⟨0,0,none⟩ (by simp),World.cell?_alloc_lt _ _ ⟨0,0,none⟩ hlt];exact hg
 have el:=As.elemV ⟨w.heap.size,0,none⟩ ⟨q,0,none⟩ ((((w.alloc (.cells #[.pointer (some ⟨q,0,none⟩)] 51)).alloc (.cells #[.pointer (some ⟨14,51,none⟩),.pointer (some ⟨w.heap.size,0,none⟩),.int .u64 150] 72)).alloc (.cells #[.pointer (some ⟨14,51,none⟩),.pointer (some ⟨w.heap.size,0,none⟩),.int .u64 150] 72)).alloc (.cells #[.string s,.iface 46 (.int .i64 n)] 93)) (by
  rw [World.cell?_alloc_lt _ _ ⟨w.heap.size,0,none⟩ (by simp;omega),World.cell?_alloc_lt _ _ ⟨w.heap.size,0,none⟩ (by simp;omega),World.cell?_alloc_lt _ _ ⟨w.heap.size,0,none⟩ (by simp)];simp [World.cell?_alloc_at])
 have st:=As.setF ⟨q,0,none⟩ ⟨w.heap.size+1+1+1+1,0,none⟩ n old (((((w.alloc (.cells #[.pointer (some ⟨q,0,none⟩)] 51)).alloc (.cells #[.pointer (some ⟨14,51,none⟩),.pointer (some ⟨w.heap.size,0,none⟩),.int .u64 150] 72)).alloc (.cells #[.pointer (some ⟨14,51,none⟩),.pointer (some ⟨w.heap.size,0,none⟩),.int .u64 150] 72)).alloc (.cells #[.string s,.iface 46 (.int .i64 n)] 93)).alloc (.cells #[.int .i64 n] 46))
  (by rw [World.cell?_alloc_at _ _ _ _ (by simp)];rfl)
  (by rw [World.cell?_alloc_lt _ _ ⟨q,0,none⟩ (by simp;omega),World.cell?_alloc_lt _ _ ⟨q,0,none⟩ (by simp;omega),World.cell?_alloc_lt _ _ ⟨q,0,none⟩ (by simp;omega),World.cell?_alloc_lt _ _ ⟨q,0,none⟩ (by simp;omega),World.cell?_alloc_lt _ _ ⟨q,0,none⟩ htl];exact ht0)
  (by rw [World.frozen?_alloc_old _ _ ⟨q,0,none⟩ (by simp;omega),World.frozen?_alloc_old _ _ ⟨q,0,none⟩ (by simp;omega),World.frozen?_alloc_old _ _ ⟨q,0,none⟩ (by simp;omega),World.frozen?_alloc_old _ _ ⟨q,0,none⟩ (by simp;omega),World.frozen?_alloc_old _ _ ⟨q,0,none⟩ (Nat.ne_of_lt htl)];exact hf0)
 have FIN:Hid (((((((w.alloc (.cells #[.pointer (some ⟨q,0,none⟩)] 51)).alloc (.cells #[.pointer (some ⟨14,51,none⟩),.pointer (some ⟨w.heap.size,0,none⟩),.int .u64 150] 72)).alloc (.cells #[.pointer (some ⟨14,51,none⟩),.pointer (some ⟨w.heap.size,0,none⟩),.int .u64 150] 72)).alloc (.cells #[.string s,.iface 46 (.int .i64 n)] 93)).alloc (.cells #[.int .i64 n] 46)).setCell ⟨q,0,none⟩ (.int .i64 n)).cell? ⟨q,0,none⟩=some (.int .i64 n)∧Below q w ((((((w.alloc (.cells #[.pointer (some ⟨q,0,none⟩)] 51)).alloc (.cells #[.pointer (some ⟨14,51,none⟩),.pointer (some ⟨w.heap.size,0,none⟩),.int .u64 150] 72)).alloc (.cells #[.pointer (some ⟨14,51,none⟩),.pointer (some ⟨w.heap.size,0,none⟩),.int .u64 150] 72)).alloc (.cells #[.string s,.iface 46 (.int .i64 n)] 93)).alloc (.cells #[.int .i64 n] 46)).setCell ⟨q,0,none⟩ (.int .i64 n))):=by
  have c5:(((((w.alloc (.cells #[.pointer (some ⟨q,0,none⟩)] 51)).alloc (.cells #[.pointer (some ⟨14,51,none⟩),.pointer (some ⟨w.heap.size,0,none⟩),.int .u64 150] 72)).alloc (.cells #[.pointer (some ⟨14,51,none⟩),.pointer (some ⟨w.heap.size,0,none⟩),.int .u64 150] 72)).alloc (.cells #[.string s,.iface 46 (.int .i64 n)] 93)).alloc (.cells #[.int .i64 n] 46)).cell? ⟨q,0,none⟩=some old:=by rw [World.cell?_alloc_lt _ _ ⟨q,0,none⟩ (by simp;omega),World.cell?_alloc_lt _ _ ⟨q,0,none⟩ (by simp;omega),World.cell?_alloc_lt _ _ ⟨q,0,none⟩ (by simp;omega),World.cell?_alloc_lt _ _ ⟨q,0,none⟩ (by simp;omega),World.cell?_alloc_lt _ _ ⟨q,0,none⟩ htl];exact ht0
  refine ⟨World.cell?_setCell_same _ _ _ c5,?_⟩
  have b:Below w.heap.size w (((((w.alloc (.cells #[.pointer (some ⟨q,0,none⟩)] 51)).alloc (.cells #[.pointer (some ⟨14,51,none⟩),.pointer (some ⟨w.heap.size,0,none⟩),.int .u64 150] 72)).alloc (.cells #[.pointer (some ⟨14,51,none⟩),.pointer (some ⟨w.heap.size,0,none⟩),.int .u64 150] 72)).alloc (.cells #[.string s,.iface 46 (.int .i64 n)] 93)).alloc (.cells #[.int .i64 n] 46)):=(((((Below.refl _ _).alloc (Nat.le_refl _) _).alloc (by simp) _).alloc (by simp;omega) _).alloc (by simp;omega) _).alloc (by simp;omega) _
  have b':=b.mono (show q≤w.heap.size by omega)
  exact b'.setCell (p:=⟨q,0,none⟩) (Nat.le_refl q) _
 clear lt1
 go_enter Tryz.func23,Tryz.ntmps23
 go_wp2
 refine wp_loop_rounds 2 ?_
 rw [rounds_succ]
 go_wp2
 rw [rounds_succ]
 go_wp2
 go_ret
 exact ⟨rfl,FIN.out.1,FIN.out.2⟩
end Go.Proofs.YtnpolopcgmjmnaaGreatDoor
namespace Go.Proofs.YtnpolopcgmjmnaaGreatDoor
set_option maxRecDepth 100000
open Go Go.RowKit
set_option maxHeartbeats 4000000 in
theorem as_nil (t:Value) (w:World):Calls Tryz.prog 23 #[.nilIface,t] w fun ev w'=>ev = .returned (.bool false)∧w'=w:=by
 go_enter Tryz.func23,Tryz.ntmps23
 go_wp2
 go_ret
 exact ⟨rfl,rfl⟩
structure HasV (w:World):Prop where
 N:HasN w
 R:HasR w
 E:w.cell? ⟨0,0,none⟩=some (.iface 110 (.agg #[.pointer (some ⟨14,49,none⟩)]))
theorem HasV.up {w w':World} (h:HasV w) (n:Below w.heap.size w w'):HasV w':=⟨h.N.up n,h.R.up n,(World.cell?_of_block (a:=⟨0,0,none⟩) (n.block _ (block_lt_of_cell h.E))).trans h.E⟩
set_option maxRecDepth 100000 in
set_option maxHeartbeats 8000000 in
theorem implVerify_any (w:World) (g:Nat) (a:Option Addr) (c:Nat) (ps:List Int) (hr:Rd w g a .u8 ps) (hb:Byt ps) (kp:ps.length≤c) (gm:Nat) (am:Option Addr) (cm:Nat) (ms:List Int) (hm:Rd w gm am .u8 ms) (bm:Byt ms) (km:ms.length≤cm) (lm:ms.length≤1048576) (gs:Nat) (aS:Option Addr) (cS:Nat) (ss:List Int) (hs:Rd w gs aS .u8 ss) (bs:Byt ss) (ks:ss.length≤cS) (H:HasV w) :
  Calls Tryz.prog 6 #[.slice a ps.length c,.slice am ms.length cm,.slice aS ss.length cS] w fun r w'=>r = .returned (.int .i64 (vfV ps ms ss))∧Below w.heap.size w w':=by
 have na:Below w.heap.size w (w.alloc (.cells #[.int .i64 0] 46)):=(Below.refl _ _).alloc (Nat.le_refl _) _
 have c0:(w.alloc (.cells #[.int .i64 0] 46)).cell? ⟨w.heap.size,0,none⟩=some (.int .i64 0):=by simp [World.cell?_alloc_at]
 have f0:(w.alloc (.cells #[.int .i64 0] 46)).frozen? ⟨w.heap.size,0,none⟩=false:=(there_new w [.int .i64 0] 46 0 (by decide)).2
 have lq:w.heap.size < (w.alloc (.cells #[.int .i64 0] 46)).heap.size:=by simp
 have H1:=hide (H.up na)
 have CS:=hide (checkSignature_any _ g a c ps (hr.up na) hb kp gm am cm ms (hm.up na) bm km lm gs aS cS ss (hs.up na) bs ks H1.out.N H1.out.R)
 clear hr hb kp hm bm km lm hs bs ks
 go_enter Tryz.func6,Tryz.ntmps6
 go_wp2_with fail
 generalize w.alloc (.cells #[.int .i64 0] 46)=wa at *
 refine CS.out.mono ?_
 rintro r w1 ⟨⟨v,rfl,hv⟩,n1⟩
 clear CS
 have N1:=nxt na n1
 have c1:w1.cell? ⟨w.heap.size,0,none⟩=some (.int .i64 0):=(World.cell?_of_block (a:=⟨w.heap.size,0,none⟩) (n1.block _ lq)).trans c0
 have f1:w1.frozen? ⟨w.heap.size,0,none⟩=false:=(n1.frozen lq).trans f0
 have H2:=hide (H1.out.up n1)
 rcases hv with ⟨h0,rfl⟩ | ⟨h0,s,rfl⟩
 ·have AN := fun t => as_nil t w1
  have Z:=hide h0
  clear h0
  go_wp2_with fail
  refine (AN _).mono ?_
  rintro r w2 ⟨rfl,rfl⟩
  go_wp2
  go_ret
  exact ⟨by rw [Z.out];rfl,N1⟩
 ·have AH := hide (as_hit (vfV ps ms ss) s w.heap.size _ w1 H2.out.E c1 f1)
  clear h0
  go_wp2_with fail
  refine AH.out.mono ?_
  rintro r w2 ⟨rfl,c2,n2⟩
  have N2:=N1.trans n2
  go_wp2
  go_ret
  exact ⟨rfl,N2⟩
end Go.Proofs.YtnpolopcgmjmnaaGreatDoor
namespace Go.Proofs.YtnpolopcgmjmnaaGreatDoor
set_option maxRecDepth 100000
open Go.RowKit
theorem gSth : Tryz.prog.globalNamed "loop.example/g00004/impl.startWords" = some 3 := by kernel_rfl
theorem tSth:(Tryz.prog.globals[3]?).map (·.type)=some 66:=by kernel_rfl
theorem gSp : Tryz.prog.globalNamed "loop.example/g00004/impl.stepWords" = some 12 := by kernel_rfl
theorem tSp:(Tryz.prog.globals[12]?).map (·.type)=some 106:=by kernel_rfl
theorem uSt:Tryz.prog.underlying 66=some (.array 8 65):=by kernel_rfl
theorem uSp:Tryz.prog.underlying 106=some (.array 80 65):=by kernel_rfl
theorem cSt:Tryz.prog.cellsOf 66=8:=by kernel_rfl
theorem cSp:Tryz.prog.cellsOf 106=80:=by kernel_rfl
theorem cUw:Tryz.prog.cellsOf 65=1:=by kernel_rfl
theorem uUw:Tryz.prog.underlying 65=some (.int .u64):=by kernel_rfl
theorem hasT_of {W:World} {n:String} {g:Nat} {ty:TypeId} {N:Nat} {l:List Int} (hn:Tryz.prog.globalNamed n=some g) (ht:(Tryz.prog.globals[g]?).map (·.type)=some ty) (hu:Tryz.prog.underlying ty=some (.array N 65)) (hc:Tryz.prog.cellsOf ty=N)
  (h:Lib.VarReads Tryz.prog W n (.agg (l.map fun x => .lit (.int .u64 x)))):HasT W g l:=by
 obtain ⟨g',t,cs,fuel,p,hg,ht',hv,hd⟩:=h
 obtain rfl:=Option.some.inj (hn.symm.trans hg)
 obtain rfl:=Option.some.inj (ht.symm.trans ht')
 have hcs:=Lib.cells_of_tab (zs:=l) hu uUw cUw hc hd
 intro k hk
 rw [World.var?_cell hg hv k]
 obtain ⟨m⟩:=cs
 simp only at hcs
 subst hcs
 simp [hk]
theorem reads_ofH {l:List (String × DataW Unit)} {W:World} (h:laidMetH Tryz.prog l W) (hp:(l.all fun x=>x.2.handleName?.isNone)=true) {n:String} {d:DataW Unit} (hm:(n,d) ∈ l):Lib.VarReads Tryz.prog W n d:=by
 rw [MakeChecks.laidMetH_plain _ _ _ hp] at h
 exact Lib.laidMet.reads h hm
theorem start_of {W : World} (h : Lib.VarReads Tryz.prog W "loop.example/g00004/impl.startWords" Rows.laid_loop_example_g00004_impl_startWords) : HasT W 3 stLh := hasT_of gSth tSth uSt cSt h
theorem steps_of {W : World} (h : Lib.VarReads Tryz.prog W "loop.example/g00004/impl.stepWords" Rows.laid_loop_example_g00004_impl_stepWords) : HasT W 12 kL := hasT_of gSp tSp uSp cSp h
def HasH (W:World):Prop:=HasT W 3 stLh∧HasT W 12 kL
theorem HasH.up {w w':World} (h:HasH w) (n:Below w.heap.size w w'):HasH w':=⟨h.1.up n,h.2.up n⟩
end Go.Proofs.YtnpolopcgmjmnaaGreatDoor
namespace Go.Proofs.YtnpolopcgmjmnaaGreatDoor
set_option maxRecDepth 100000
open Go Go.RowKit
def HasA (w:World):Prop:=HasTw w 8∧Em5 w 7 0 dGo∧HasSt w 13∧Has3 w 9 12 5 4
theorem hasA_of {l:List (String × DataW Unit)} {W:World} (h:laidMetH Tryz.prog l W) (hp:(l.all fun x=>x.2.handleName?.isNone)=true)
  (h1 : ("loop.example/g00004/impl.chainSteps", Rows.laid_loop_example_g00004_impl_chainSteps) ∈ l) (h2 : ("loop.example/g00004/impl.inverseStep", Rows.laid_loop_example_g00004_impl_inverseStep) ∈ l)
  (h3 : ("loop.example/g00004/impl.twiceP", Rows.laid_loop_example_g00004_impl_twiceP) ∈ l) (h4 : ("loop.example/g00004/impl.curveFactor", Rows.laid_loop_example_g00004_impl_curveFactor) ∈ l) : HasA W :=
 ⟨tw_of_reads (reads_of h hp h3),cf_of_reads (reads_of h hp h4),st_of_reads (reads_of h hp h1),three_of_reads gIn tIn (reads_of h hp h2)⟩
end Go.Proofs.YtnpolopcgmjmnaaGreatDoor
namespace Go.Proofs.YtnpolopcgmjmnaaGreatDoor
set_option maxRecDepth 100000
open Go Go.RowKit
end Go.Proofs.YtnpolopcgmjmnaaGreatDoor
namespace Go.Proofs.YtnpolopcgmjmnaaGreatDoor
set_option maxRecDepth 100000
open Go Go.RowKit
set_option maxRecDepth 100000 in
set_option maxHeartbeats 4000000 in
theorem verify_law (w : World) (g0 : Nat) (a0 : Option Addr) (c0 : Nat) (X0 : List Int) (hX0 : Rd w g0 a0 .u8 X0) (bX0 : Byt X0) (g1 : Nat) (a1 : Option Addr) (c1 : Nat) (X1 : List Int) (hX1 : Rd w g1 a1 .u8 X1) (bX1 : Byt X1) (g2 : Nat) (a2 : Option Addr) (c2 : Nat) (X2 : List Int) (hX2 : Rd w g2 a2 .u8 X2) (bX2 : Byt X2) (hL : HasV w) :
  Calls Tryz.prog 3 #[.slice a0 X0.length c0,.slice a1 X1.length c1,.slice a2 X2.length c2] w fun e w'=>e = .returned (.bool true)∧Below w.heap.size w w':=by
 have N:Below w.heap.size w w:=Below.refl _ _
 by_cases q0:X0.length≤1048576
 ·by_cases q1 : X1.length ≤ 1048576
  ·by_cases q2 : X2.length ≤ 1048576
   ·have u0 : decide ((1048576 : Int) < (X0.length : Int)) = false := by simp; omega
    have u1:decide ((1048576:Int) < (X1.length:Int))=false:=by simp;omega
    have u2:decide ((1048576:Int) < (X2.length:Int))=false:=by simp;omega
    have SP:=fun W g a c h (p:a=none→c=0) g' a' c' h' (p':a'=none→c'=0) g'' a'' c'' h'' (p'':X2.length≤c'')=>specVerify_any W g a c X0 h bX0 p g' a' c' X1 h' bX1 p' q1 g'' a'' c'' X2 h'' bX2 p''
    have IM:=fun W g a c h (p:X0.length≤c) g' a' c' h' (p':X1.length≤c') g'' a'' c'' h'' (p'':X2.length≤c'') (n:Below w.heap.size w W)=>implVerify_any W g a c X0 h bX0 p g' a' c' X1 h' bX1 p' q1 g'' a'' c'' X2 h'' bX2 p'' (hL.up n)
    obtain ⟨V,hV⟩:∃ V,V=vfV X0 X1 X2:=⟨_,rfl⟩
    simp only [← hV] at SP IM
    clear hV
    go_enter Tryz.func3,Tryz.ntmps3
    go_wp2_with fail
    refine (toByteS_any w g0 a0 c0 X0 (hX0.up N) q0).mono ?_
    rintro e w1 ⟨rfl,A0,m1⟩
    replace N:=nxt N m1
    clear m1
    go_wp2_with fail
    refine (toByteS_any w1 g1 a1 c1 X1 (hX1.up N) q1).mono ?_
    rintro e w2 ⟨rfl,A1,m2⟩
    replace A0:=A0.up m2
    replace N:=nxt N m2
    clear m2
    go_wp2_with fail
    refine (toByteS_any w2 g2 a2 c2 X2 (hX2.up N) q2).mono ?_
    rintro e w3 ⟨rfl,A2,m3⟩
    replace A0:=A0.up m3
    replace A1:=A1.up m3
    replace N:=nxt N m3
    clear m3
    go_wp2_with fail
    refine (SP w3 _ _ _ A0.own0.rd (by simp) _ _ _ A1.own0.rd (by simp) _ _ _ A2.own0.rd (Nat.le_refl _)).mono ?_
    rintro e w4 ⟨rfl,m4⟩
    replace A0:=A0.up m4
    replace A1:=A1.up m4
    replace A2:=A2.up m4
    replace N:=nxt N m4
    clear m4
    clear A0 A1 A2 SP
    go_wp2_with fail
    refine (toByteS_any w4 g0 a0 c0 X0 (hX0.up N) q0).mono ?_
    rintro e w5 ⟨rfl,B0,m5⟩
    replace N:=nxt N m5
    clear m5
    go_wp2_with fail
    refine (toByteS_any w5 g1 a1 c1 X1 (hX1.up N) q1).mono ?_
    rintro e w6 ⟨rfl,B1,m6⟩
    replace B0:=B0.up m6
    replace N:=nxt N m6
    clear m6
    go_wp2_with fail
    refine (toByteS_any w6 g2 a2 c2 X2 (hX2.up N) q2).mono ?_
    rintro e w7 ⟨rfl,B2,m7⟩
    replace B0:=B0.up m7
    replace B1:=B1.up m7
    replace N:=nxt N m7
    clear m7
    go_wp2_with fail
    refine (IM w7 _ _ _ B0.own0.rd (Nat.le_refl _) _ _ _ B1.own0.rd (Nat.le_refl _) _ _ _ B2.own0.rd (Nat.le_refl _) N).mono ?_
    rintro e w8 ⟨rfl,m8⟩
    replace B0:=B0.up m8
    replace B1:=B1.up m8
    replace B2:=B2.up m8
    replace N:=nxt N m8
    clear m8
    go_wp2_with fail
    refine (toByteS_any w8 g0 a0 c0 X0 (hX0.up N) q0).mono ?_
    rintro e w9 ⟨rfl,E0,m9⟩
    replace B0:=B0.up m9
    replace B1:=B1.up m9
    replace B2:=B2.up m9
    replace N:=nxt N m9
    clear m9
    go_wp2_with fail
    refine (eqByteS_same w9 _ _ _ _ _ _ X0 B0.own0.rd E0.own0.rd q0).mono ?_
    rintro e w10 ⟨rfl,m10⟩
    replace B0:=B0.up m10
    replace B1:=B1.up m10
    replace B2:=B2.up m10
    replace E0:=E0.up m10
    replace N:=nxt N m10
    clear m10
    clear E0
    go_wp2_with fail
    refine (toByteS_any w10 g1 a1 c1 X1 (hX1.up N) q1).mono ?_
    rintro e w11 ⟨rfl,E1,m11⟩
    replace B0:=B0.up m11
    replace B1:=B1.up m11
    replace B2:=B2.up m11
    replace N:=nxt N m11
    clear m11
    go_wp2_with fail
    refine (eqByteS_same w11 _ _ _ _ _ _ X1 B1.own0.rd E1.own0.rd q1).mono ?_
    rintro e w12 ⟨rfl,m12⟩
    replace B0:=B0.up m12
    replace B1:=B1.up m12
    replace B2:=B2.up m12
    replace E1:=E1.up m12
    replace N:=nxt N m12
    clear m12
    clear E1
    go_wp2_with fail
    refine (toByteS_any w12 g2 a2 c2 X2 (hX2.up N) q2).mono ?_
    rintro e w13 ⟨rfl,E2,m13⟩
    replace B0:=B0.up m13
    replace B1:=B1.up m13
    replace B2:=B2.up m13
    replace N:=nxt N m13
    clear m13
    go_wp2_with fail
    refine (eqByteS_same w13 _ _ _ _ _ _ X2 B2.own0.rd E2.own0.rd q2).mono ?_
    rintro e w14 ⟨rfl,m14⟩
    replace B0:=B0.up m14
    replace B1:=B1.up m14
    replace B2:=B2.up m14
    replace E2:=E2.up m14
    replace N:=nxt N m14
    clear m14
    clear E2
    go_wp2
    go_ret
    exact ⟨rfl,N⟩
   ·have u0 : decide ((1048576 : Int) < (X0.length : Int)) = false := by simp; omega
    have u1:decide ((1048576:Int) < (X1.length:Int))=false:=by simp;omega
    have u2:decide ((1048576:Int) < (X2.length:Int))=true:=by simp;omega
    go_enter Tryz.func3,Tryz.ntmps3
    go_wp2
    go_ret
    exact ⟨rfl,N⟩
  ·have u0 : decide ((1048576 : Int) < (X0.length : Int)) = false := by simp; omega
   have u1:decide ((1048576:Int) < (X1.length:Int))=true:=by simp;omega
   go_enter Tryz.func3,Tryz.ntmps3
   go_wp2
   go_ret
   exact ⟨rfl,N⟩
 ·have u0 : decide ((1048576 : Int) < (X0.length : Int)) = true := by simp; omega
  go_enter Tryz.func3,Tryz.ntmps3
  go_wp2
  go_ret
  exact ⟨rfl,N⟩
end Go.Proofs.YtnpolopcgmjmnaaGreatDoor
namespace Go.Proofs.YtnpolopcgmjmnaaGreatDoor
set_option maxRecDepth 100000
open Go Go.RowKit
theorem gRm : Tryz.prog.globalNamed "loop.example/g00004/impl.rootOfMinusOne" = some 11 := by kernel_rfl
theorem tRm:(Tryz.prog.globals[11]?).map (·.type)=some 83:=by kernel_rfl
theorem rm_of_reads {W : World} (h : Lib.VarReads Tryz.prog W "loop.example/g00004/impl.rootOfMinusOne" Rows.laid_loop_example_g00004_impl_rootOfMinusOne) : Has5 W 11 iL := by
 obtain ⟨g,t,cs,fuel,p,hg,ht,hv,hd⟩:=h
 obtain rfl:=Option.some.inj (gRm.symm.trans hg)
 obtain rfl:=Option.some.inj (tRm.symm.trans ht)
 have hcs:=Lib.cells_of_tab (zs:=[1718705420411056,234908883556509,2233514472574048,2117202627021982,765476049583133]) uEl Tryz.underlying65 cU64 cEl hd
 intro k hk
 rw [World.var?_cell hg hv k]
 obtain ⟨l⟩:=cs
 simp only at hcs
 subst hcs
 obtain rfl | rfl | rfl | rfl | rfl:k=0∨k=1∨k=2∨k=3∨k=4:=by omega
 all_goals rfl
theorem hasR_ofp {l:List (String × DataW Unit)} {W:World} (h:laidMetH Tryz.prog l W) (hp:(l.all fun x=>x.2.handleName?.isNone)=true)
  (h1 : ("loop.example/g00004/impl.chainSteps", Rows.laid_loop_example_g00004_impl_chainSteps) ∈ l) (h2 : ("loop.example/g00004/impl.rootStep", Rows.laid_loop_example_g00004_impl_rootStep) ∈ l)
  (h3 : ("loop.example/g00004/impl.rootOfMinusOne", Rows.laid_loop_example_g00004_impl_rootOfMinusOne) ∈ l) (h4 : ("loop.example/g00004/impl.twiceP", Rows.laid_loop_example_g00004_impl_twiceP) ∈ l) : HasR W :=
 ⟨st_of_reads (reads_of h hp h1),three_of_reads gRo tRo (reads_of h hp h2),rm_of_reads (reads_of h hp h3),tw_of_reads (reads_of h hp h4)⟩
theorem vfEt : Tryz.prog.globalNamed "errors.errorType" = some 0 := by kernel_rfl
theorem vfRt : (Tryz.prog.cutTypes.find? (·.1 == "internal/reflectlite.rtype")).map (·.2) = some 110 := by kernel_rfl
theorem vfRow:((List.range Tryz.prog.types.size).filter fun t=>Tryz.prog.rowNamed t [101,114,114,111,114])=[49]:=by kernel_rfl
theorem handle_of_vf {W : World} (h : handlesMet Tryz.prog [("errors.errorType", Rows.laid_errors_errorType)] W) : W.cell? ⟨0, 0, none⟩ = some (.iface 110 (.agg #[.pointer (some ⟨14, 49, none⟩)])) := by
 obtain ⟨name,u,ty,e1,e2,e3,e4,e5⟩:=h _ (List.mem_singleton.2 rfl)
 have en:name=[101,114,114,111,114]:=(Option.some.inj e1).symm
 subst en
 obtain rfl:=Option.some.inj (vfRt.symm.trans e2)
 have hm:ty ∈ (List.range Tryz.prog.types.size).filter fun t=>Tryz.prog.rowNamed t [101,114,114,111,114]:=List.mem_filter.2 ⟨List.mem_range.2 e3,e4⟩
 rw [vfRow] at hm
 obtain rfl:=List.mem_singleton.1 hm
 have hh:typeHandle Tryz.prog 49 = .pointer (some ⟨14,49,none⟩):=by kernel_rfl
 rw [hh] at e5
 simpa using World.var?_cell vfEt e5 0
theorem laid_verify {W:World} (h:laidMetH Tryz.prog Rows.fnExactVerifyRow.laid W):HasV W:=by
 have h' : laidMet Tryz.prog Rows.fnExactVerifyRow.laid.tail W ∧ handlesMet Tryz.prog [("errors.errorType", Rows.laid_errors_errorType)] W := h
 have k:laidMetH Tryz.prog Rows.fnExactVerifyRow.laid.tail W:=by
  rw [MakeChecks.laidMetH_plain _ _ _ (by kernel_rfl)]
  exact h'.1
 have A:=hasA_of k (by kernel_rfl) (.head _) (.tail _ (.head _)) (.tail _ (.tail _ (.tail _ (.tail _ (.head _))))) (.tail _ (.tail _ (.tail _ (.tail _ (.tail _ (.tail _ (.tail _ (.tail _ (.head _)))))))))
 exact ⟨⟨⟨A.1,A.2.1,zp_of_reads (reads_of k (by kernel_rfl) (.tail _ (.tail _ (.tail _ (.tail _ (.tail _ (.tail _ (.tail _ (.tail _ (.tail _ (.head _))))))))))),A.2.2.1,A.2.2.2,bp_of_reads (reads_of k (by kernel_rfl) (.tail _ (.tail _ (.tail _ (.tail _ (.tail _ (.tail _ (.tail _ (.tail _ (.tail _ (.tail _ (.head _)))))))))))) ⟩,
  start_of (reads_ofH k (by kernel_rfl) (.tail _ (.tail _ (.tail _ (.tail _ (.tail _ (.tail _ (.tail _ (.tail _ (.tail _ (.tail _ (.tail _ (.head _))))))))))))),steps_of (reads_ofH k (by kernel_rfl) (.tail _ (.tail _ (.tail _ (.tail _ (.tail _ (.tail _ (.tail _ (.tail _ (.tail _ (.tail _ (.tail _ (.tail _ (.head _)))))))))))))),
  ⟨q_of_reads (reads_ofq k (by kernel_rfl) (.tail _ (.tail _ (.tail _ (.tail _ (.tail _ (.head _))))))),s_of_reads (reads_ofq k (by kernel_rfl) (.tail _ (.tail _ (.tail _ (.tail _ (.tail _ (.tail _ (.head _)))))))),folds_of_reads (reads_ofq k (by kernel_rfl) (.tail _ (.tail _ (.tail _ (.tail _ (.tail _ (.tail _ (.tail _ (.head _)))))))))⟩⟩,
  hasR_ofp k (by kernel_rfl) (.head _) (.tail _ (.tail _ (.head _))) (.tail _ (.tail _ (.tail _ (.head _)))) (.tail _ (.tail _ (.tail _ (.tail _ (.head _))))),handle_of_vf h'.2⟩
end Go.Proofs.YtnpolopcgmjmnaaGreatDoor
