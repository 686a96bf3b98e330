import Derived.Test.YtmmbkkfjiaoeiaaGreatGV12
import Derived.Maps.AppendAt
import Derived.Deep.Cut
import Derived.Test.YtmmbkkfjiaoeiaaGreatGV1
import Derived.Test.YtmmbkkfjiaoeiaaGreatGV2
import Derived.Deep.DeepCutAuto
import Derived.Test.YtmmbkkfjiaoeiaaGreatGV7
import Derived.BigQuiet
import Derived.Test.YtmmbkkfjiaoeiaaGreatGV3
import Derived.Test.YtmmbkkfjiaoeiaaGreatGV10
import Derived.Deep.RegionHeld3
namespace Go.Proofs.YtmmbkkfjiaoeiaaGreat
open Go Go.RowKit
theorem append_anyM {P : Program} (w : World) (ty : TypeId) (i : TypeInfo) (ht : P.underlying 22 = some (.slice 5)) (hi : P.info? 5 = some i) (hz : i.zero = some (.int .u8 0)) (hsize : i.size = 1) (hby : i.bytes = 1)
    (base:Nat) (v:Value) (xs:List Int) (hown:RowB w base v xs) (g:Nat) (a:Option Addr) (c:Nat) (us:List Int) (hr:Rd w g a .u8 us) (hc:a=none→c=0) (hl:xs.length+us.length≤1099511627776) (hbase:base≤w.heap.size) :
    ∃ v' w',(Builtin.append_ #[22,22] ty #[v,.slice a us.length c]).run P w = .ok v' w'∧RowB w' base v' (xs ++ us)∧w.grownBy w' v.ownBlock:=by
  cases a with
  | none =>
    obtain rfl:us=[]:=by
      by_cases h0:0 < us.length
      · obtain ⟨off, h, _⟩ := hr h0
        simp at h
      · exact List.eq_nil_of_length_eq_zero (by omega)
    obtain rfl:=hc rfl
    exact ⟨v,w,run_append_owned_none (P:=P) (w:=w) base 22 ty 5 i 1 ht hi v _ _ hown,by simpa using hown,⟨rfl,rfl,rfl,Nat.le_refl _,fun _ _ _=>rfl⟩⟩
  | some ad =>
    have hcell:∀ j u,(us.map (Value.int .u8))[j]?=some u→w.cell? (ad.add j)=some u:=by
      intro j u hj
      have hjl:j < us.length:=by
        have:=(List.getElem?_eq_some_iff.1 hj).1
        simpa using this
      obtain ⟨off,ha,hcc⟩:=hr (by omega)
      simp only [Option.some.injEq] at ha
      subst ha
      rw [Addr.add_mid,hcc j hjl]
      simpa [hjl] using hj
    have hone:∀ u ∈ us.map (Value.int .u8),u.oneCell'=true:=by
      intro u hu
      obtain ⟨x,_,rfl⟩:=List.mem_map.1 hu
      rfl
    obtain ⟨v',w',h1,h2,h3,-,-⟩:=run_append_own_at (P:=P) w base 22 ty 5 i (.int .u8 0) 1 1 ht hi hz hsize hby rfl (by decide) v xs.length (xs.map (Value.int .u8)) hown ad us.length c (us.map (Value.int .u8)) (by simp) hcell hone (by unfold maxLen;omega) (by omega) hbase
    refine ⟨v',w',h1,?_,h3⟩
    show w'.ownsRow base 5 1 v' (xs ++ us).length ((xs ++ us).map (Value.int .u8))
    rw [List.length_append,List.map_append]
    exact h2
set_option maxRecDepth 100000 in
set_option maxHeartbeats 800000 in
theorem l10SpoilM_any (w : World) (s g : Nat) (a : Option Addr) (c : Nat) (xs : List Int) (t : Int) (hs : Src w s a xs.length c t) (hr : Rd w g a .u8 xs) (hne : 0 < xs.length → g ≠ s) (hb : Byt xs) (hl : xs.length ≤ 1048576)
    (t0:0≤t) (t1:t≤10000) (v:Value) (ys:List Int) (base:Nat) (hR:RowB w base v ys) (hsb:s < base) (hbw:base≤w.heap.size) (yb:Byt ys) (y1:ys.length≤1000000) :
    Calls Tryz.prog 28 #[.pointer (some ⟨s,0,none⟩),v] w fun e w'=>∃ zs r,e = .returned r∧Byt zs∧zs.length≤ys.length+1∧RowB w' base r zs∧Below s w w'∧(∀ k,k < w.heap.size→k≠s→v.ownBlock≠some k→w'.heap[k]?=w.heap[k]?)∧∃ u,Src w' s a xs.length c u∧0≤u∧u≤t+10:=by
  by_cases y0:0 < ys.length
  case neg =>
    have e:ys=[]:=List.eq_nil_of_length_eq_zero (by omega)
    subst e
    obtain ⟨a9,c9,g9,rfl,-,-,-,-⟩:=hR.rd
    have na:Below w.heap.size w (w.alloc (.cells #[.int .u8 0] 5)):=(Below.refl _ _).alloc (Nat.le_refl _) _
    have ls:=hs.lt
    have o9:=hide ((RowB.lit1 w 0).base hbw)
    go_enter Tryz.func28,Tryz.ntmps28
    go_wp2
    go_ret
    exact ⟨[0],_,rfl,fun i=>by match i with | 0=>exact ⟨by decide,by decide⟩ | n+1=>exact ⟨by simp,by simp⟩,by simp,o9.out,na.mono (by omega),fun k hk _ _=>na.block k hk,t,hs.of_block (na.block s ls),t0,by omega⟩
  obtain ⟨i0,hi,hz0,hz1,hz2⟩:=info_parts Tryz.info5
  obtain ⟨g2,cap,rfl,hg2,hcap,-⟩:=hR.parts y0
  have e0:((ys.length:Int) == 0)=false:=beq_eq_false_iff_ne.2 (by omega)
  have e0':decide ((ys.length:Int)=0)=false:=decide_eq_false (by omega)
  have N1:=hide (l1NextB_any w s g a c xs t 4 hs hr hne hb hl t0 (by omega) (by decide) (by decide))
  go_enter Tryz.func28,Tryz.ntmps28
  go_wp2_with fail
  refine N1.out.mono ?_
  rintro e w1 ⟨q,rfl,hq,S1,O1⟩
  have R1:=hr.only O1 hne
  have W1:=hR.only O1 hsb
  have NX:=fun n h0 h1=>hide (l1NextB_any w1 s g a c xs (t+1) n S1 R1 hne hb hl (by omega) (by omega) h0 h1)
  clear N1
  obtain rfl | rfl | h5:q=0∨q=1∨2≤q:=by omega
  · go_wp2_with fail
    refine (NX 256 (by decide) (by decide)).out.mono ?_
    rintro e w2 ⟨r,rfl,h2,S2,O2⟩
    have W2:=W1.only O2 hsb
    have z1:=O1.size
    have z2:=O2.size
    have NB:Below s w w2:=((Below.refl s w).trans (O1.below (Nat.le_refl _))).trans (O2.below (Nat.le_refl _))
    have na:Below w2.heap.size w2 (w2.alloc (.cells #[.int .u8 r] 5)):=(Below.refl _ _).alloc (Nat.le_refl _) _
    have B1:Blk (w2.alloc (.cells #[.int .u8 r] 5)) w2.heap.size .u8 [r]:=blk_lit1 w2 .u8 5 r
    obtain ⟨v9,w9,hap,o9,gr9⟩:=append_anyM (P:=Tryz.prog) (w2.alloc (.cells #[.int .u8 r] 5)) 22 i0 Tryz.underlying22 hi hz0 hz1 hz2 base _ _ (W2.up na) _ _ 1 [r] B1.own0.rd (by simp) (by simp;omega) (by have:=na.size;omega)
    have n9:Below s (w2.alloc (.cells #[.int .u8 r] 5)) w9:=Below.grown (Below.refl s _) gr9 (by have:=na.size;omega) (fun k hk=>Nat.le_trans (by omega) (World.ownsRow.lt (W2.up na) k hk).1)
    have KP:=hide (show ∀ k,k < w.heap.size→k≠s→k≠g2→w9.heap[k]?=w.heap[k]? from fun k hk h1 h2=>(gr9.block k (by have:=na.size;omega) (fun e=>h2 (by simpa [Value.ownBlock] using e))).trans ((na.block k (by omega)).trans ((O2.block k h1).trans (O1.block k h1))))
    have ls2:=S2.lt
    have SS:=hide (show ∃ u,Src w9 s a xs.length c u∧0≤u∧u≤t+10 from ⟨_,S2.of_block ((gr9.block s (by have:=na.size;omega) (fun e=>(by omega:s≠g2) (by simpa [Value.ownBlock] using e))).trans (na.block s ls2)),by omega,by omega⟩)
    have N9:=(NB.trans (na.mono (by omega))).trans n9
    have yb':=byt_app1R yb r h2.1 h2.2
    have yl:Hid ((ys ++ [r]).length=ys.length+1):=by show _=_;simp
    clear na B1 n9 gr9 W1 W2 NX z1 z2
    go_wp2_with (at_builtin;refine Lib.wpList_append_run _ rfl _ _ 22 22 rfl _ _ rfl rfl _ _ hap ?_)
    clear hap
    go_wp2
    go_ret
    exact ⟨_,_,rfl,yb',by rw [yl.out];exact Nat.le_refl _,o9,N9,fun k h1 h2 h3=>KP.out k h1 h2 (fun e=>h3 (by rw [e];rfl)),SS.out⟩
  · go_wp2_with fail
    refine (NX (ys.length:Int) (by omega) (by omega)).out.mono ?_
    rintro e w2 ⟨r,rfl,h2,S2,O2⟩
    obtain ⟨n,rfl⟩:=Int.eq_ofNat_of_zero_le h2.1
    have W2:=W1.only O2 hsb
    have NB:Below s w w2:=((Below.refl s w).trans (O1.below (Nat.le_refl _))).trans (O2.below (Nat.le_refl _))
    have KP:=hide (show ∀ k,k < w.heap.size→k≠s→k≠g2→w2.heap[k]?=w.heap[k]? from fun k _ h1 _=>(O2.block k h1).trans (O1.block k h1))
    have SS:=hide (show ∃ u,Src w2 s a xs.length c u∧0≤u∧u≤t+10 from ⟨_,S2,by omega,by omega⟩)
    obtain ⟨g3,cap3,e3,-,-,-,-,-,CUT⟩:=W2.parts y0
    cases e3
    have CU:=hide (CUT n (by omega))
    have yb':=byt_takeR yb n
    have yl:Hid ((ys.take n).length=n):=by show _=_;rw [List.length_take];omega
    have k1:(n:Int)≤(cap:Int):=by omega
    clear CUT W1 W2 NX
    go_wp2
    go_ret
    exact ⟨_,_,rfl,yb',by rw [yl.out];omega,CU.out,NB,fun k h1 h2 h3=>KP.out k h1 h2 (fun e=>h3 (by rw [e];rfl)),SS.out⟩
  · have a0 : (q == 0) = false := by simp; omega
    have a1:(q == 1)=false:=by simp;omega
    have b0:decide (q=0)=false:=by simp;omega
    have b1:decide (q=1)=false:=by simp;omega
    go_wp2_with fail
    refine (NX (ys.length:Int) (by omega) (by omega)).out.mono ?_
    rintro e w2 ⟨k,rfl,hk,S2,O2⟩
    have OO2:=O1.trans O2
    have C3:=hide (l1Chance_any w2 s g a c xs (t+1+1) 2 S2 (hr.only OO2 hne) hne hb hl (by omega) (by omega) (by decide) (by decide))
    clear NX a0 a1 b0 b1 S1 R1 W1
    go_wp2_with fail
    refine C3.out.mono ?_
    rintro e w3 ⟨b3,rfl,S3,O3⟩
    have OO3:=OO2.trans O3
    have N4:=hide (l1NextB_any w3 s g a c xs (t+1+1+1) 6 S3 (hr.only OO3 hne) hne hb hl (by omega) (by omega) (by decide) (by decide))
    clear C3 O2 O3 OO2 S2
    cases b3 with
    | false =>
      obtain ⟨kn,rfl⟩:=Int.eq_ofNat_of_zero_le (hk).1
      have kl:kn < ys.length:=by have:=(hk).2;omega
      have kl':(kn:Int) < (ys.length:Int):=by omega
      have C5:=hide (l1Chance_any w3 s g a c xs (t+1+1+1) 2 S3 (hr.only OO3 hne) hne hb hl (by omega) (by omega) (by decide) (by decide))
      go_wp2_with fail
      refine C5.out.mono ?_
      rintro e w5 ⟨b5,rfl,S5,O5⟩
      have OO5:=OO3.trans O5
      clear C5
      cases b5 with
      | true =>
        have W5:=hR.only OO5 hsb
        obtain ⟨g3,cap3,e3,-,-,CE,FR,ST,-⟩:=W5.parts y0
        cases e3
        have ce:=CE kn kl
        have fr:=FR kn
        have bz:=yb kn
        have wz:Hid (IntKind.u8.wrap (ys.getD kn 0+1)=(ys.getD kn 0+1) % 256):=by show _=_;simp [IntKind.wrap,IntKind.signed,IntKind.bits]
        generalize ys.getD kn 0=x at *
        have st:=fun z=>hide (ST kn z kl)
        have yb':=byt_setR yb kn ((x+1) % 256) (by omega) (by omega)
        have yl:Hid ((ys.set kn ((x+1) % 256)).length=ys.length):=List.length_set ..
        have NB:Below s w (w5.setCell ⟨g2,kn,none⟩ (.int .u8 ((x+1) % 256))):=((Below.refl s w).trans (OO5.below (Nat.le_refl _))).setCell (p:=⟨g2,kn,none⟩) (by show s≤g2;omega) _
        have KP:=hide (show ∀ k,k < w.heap.size→k≠s→k≠g2→(w5.setCell ⟨g2,kn,none⟩ (.int .u8 ((x+1) % 256))).heap[k]?=w.heap[k]? from fun k _ h1 h2=>((Only.setCell w5 g2 kn _).block k h2).trans (OO5.block k h1))
        have SS:=hide (show ∃ u,Src (w5.setCell ⟨g2,kn,none⟩ (.int .u8 ((x+1) % 256))) s a xs.length c u∧0≤u∧u≤t+10 from ⟨_,S5.of_block ((Only.setCell w5 g2 kn _).block s (by omega)),by omega,by omega⟩)
        clear CE FR ST W5
        go_wp2
        go_ret
        exact ⟨_,_,rfl,yb',by rw [yl.out];omega,(st _).out,NB,fun k h1 h2 h3=>KP.out k h1 h2 (fun e=>h3 (by rw [e];rfl)),SS.out⟩
      | false =>
        have N6:=hide (l1NextB_any w5 s g a c xs (t+1+1+1+1) 256 S5 (hr.only OO5 hne) hne hb hl (by omega) (by omega) (by decide) (by decide))
        go_wp2_with fail
        refine N6.out.mono ?_
        rintro e w6 ⟨z,rfl,h6,S6,O6⟩
        have OO6:=OO5.trans O6
        have W6:=hR.only OO6 hsb
        obtain ⟨g3,cap3,e3,-,-,CE,FR,ST,-⟩:=W6.parts y0
        cases e3
        have ce:=CE kn kl
        have fr:=FR kn
        have st:=hide (ST kn z kl)
        have yb':=byt_setR yb kn z h6.1 h6.2
        have yl:Hid ((ys.set kn z).length=ys.length):=List.length_set ..
        have NB:Below s w (w6.setCell ⟨g2,kn,none⟩ (.int .u8 z)):=((Below.refl s w).trans (OO6.below (Nat.le_refl _))).setCell (p:=⟨g2,kn,none⟩) (by show s≤g2;omega) _
        have KP:=hide (show ∀ k,k < w.heap.size→k≠s→k≠g2→(w6.setCell ⟨g2,kn,none⟩ (.int .u8 z)).heap[k]?=w.heap[k]? from fun k _ h1 h2=>((Only.setCell w6 g2 kn _).block k h2).trans (OO6.block k h1))
        have SS:=hide (show ∃ u,Src (w6.setCell ⟨g2,kn,none⟩ (.int .u8 z)) s a xs.length c u∧0≤u∧u≤t+10 from ⟨_,S6.of_block ((Only.setCell w6 g2 kn _).block s (by omega)),by omega,by omega⟩)
        clear CE FR ST W6 N6
        generalize ys.getD kn 0=x at *
        go_wp2
        go_ret
        exact ⟨_,_,rfl,yb',by rw [yl.out];omega,st.out,NB,fun k h1 h2 h3=>KP.out k h1 h2 (fun e=>h3 (by rw [e];rfl)),SS.out⟩
    | true =>
      by_cases c6:6 < k
      · have t6 : decide (6 < k) = true := by simp; omega
        go_wp2_with fail
        refine N4.out.mono ?_
        rintro e w4 ⟨k2,rfl,hk2,S4,O4⟩
        have OO4:=OO3.trans O4
        have hk3:0≤k2∧k2 < (ys.length:Int):=by omega
        clear N4 S3 t6
        obtain ⟨kn,rfl⟩:=Int.eq_ofNat_of_zero_le (hk3).1
        have kl:kn < ys.length:=by have:=(hk3).2;omega
        have kl':(kn:Int) < (ys.length:Int):=by omega
        have C5:=hide (l1Chance_any w4 s g a c xs (t+1+1+1+1) 2 S4 (hr.only OO4 hne) hne hb hl (by omega) (by omega) (by decide) (by decide))
        go_wp2_with fail
        refine C5.out.mono ?_
        rintro e w5 ⟨b5,rfl,S5,O5⟩
        have OO5:=OO4.trans O5
        clear C5
        cases b5 with
        | true =>
          have W5:=hR.only OO5 hsb
          obtain ⟨g3,cap3,e3,-,-,CE,FR,ST,-⟩:=W5.parts y0
          cases e3
          have ce:=CE kn kl
          have fr:=FR kn
          have bz:=yb kn
          have wz:Hid (IntKind.u8.wrap (ys.getD kn 0+1)=(ys.getD kn 0+1) % 256):=by show _=_;simp [IntKind.wrap,IntKind.signed,IntKind.bits]
          generalize ys.getD kn 0=x at *
          have st:=fun z=>hide (ST kn z kl)
          have yb':=byt_setR yb kn ((x+1) % 256) (by omega) (by omega)
          have yl:Hid ((ys.set kn ((x+1) % 256)).length=ys.length):=List.length_set ..
          have NB:Below s w (w5.setCell ⟨g2,kn,none⟩ (.int .u8 ((x+1) % 256))):=((Below.refl s w).trans (OO5.below (Nat.le_refl _))).setCell (p:=⟨g2,kn,none⟩) (by show s≤g2;omega) _
          have KP:=hide (show ∀ k,k < w.heap.size→k≠s→k≠g2→(w5.setCell ⟨g2,kn,none⟩ (.int .u8 ((x+1) % 256))).heap[k]?=w.heap[k]? from fun k _ h1 h2=>((Only.setCell w5 g2 kn _).block k h2).trans (OO5.block k h1))
          have SS:=hide (show ∃ u,Src (w5.setCell ⟨g2,kn,none⟩ (.int .u8 ((x+1) % 256))) s a xs.length c u∧0≤u∧u≤t+10 from ⟨_,S5.of_block ((Only.setCell w5 g2 kn _).block s (by omega)),by omega,by omega⟩)
          clear CE FR ST W5
          go_wp2
          go_ret
          exact ⟨_,_,rfl,yb',by rw [yl.out];omega,(st _).out,NB,fun k h1 h2 h3=>KP.out k h1 h2 (fun e=>h3 (by rw [e];rfl)),SS.out⟩
        | false =>
          have N6:=hide (l1NextB_any w5 s g a c xs (t+1+1+1+1+1) 256 S5 (hr.only OO5 hne) hne hb hl (by omega) (by omega) (by decide) (by decide))
          go_wp2_with fail
          refine N6.out.mono ?_
          rintro e w6 ⟨z,rfl,h6,S6,O6⟩
          have OO6:=OO5.trans O6
          have W6:=hR.only OO6 hsb
          obtain ⟨g3,cap3,e3,-,-,CE,FR,ST,-⟩:=W6.parts y0
          cases e3
          have ce:=CE kn kl
          have fr:=FR kn
          have st:=hide (ST kn z kl)
          have yb':=byt_setR yb kn z h6.1 h6.2
          have yl:Hid ((ys.set kn z).length=ys.length):=List.length_set ..
          have NB:Below s w (w6.setCell ⟨g2,kn,none⟩ (.int .u8 z)):=((Below.refl s w).trans (OO6.below (Nat.le_refl _))).setCell (p:=⟨g2,kn,none⟩) (by show s≤g2;omega) _
          have KP:=hide (show ∀ k,k < w.heap.size→k≠s→k≠g2→(w6.setCell ⟨g2,kn,none⟩ (.int .u8 z)).heap[k]?=w.heap[k]? from fun k _ h1 h2=>((Only.setCell w6 g2 kn _).block k h2).trans (OO6.block k h1))
          have SS:=hide (show ∃ u,Src (w6.setCell ⟨g2,kn,none⟩ (.int .u8 z)) s a xs.length c u∧0≤u∧u≤t+10 from ⟨_,S6.of_block ((Only.setCell w6 g2 kn _).block s (by omega)),by omega,by omega⟩)
          clear CE FR ST W6 N6
          generalize ys.getD kn 0=x at *
          go_wp2
          go_ret
          exact ⟨_,_,rfl,yb',by rw [yl.out];omega,st.out,NB,fun k h1 h2 h3=>KP.out k h1 h2 (fun e=>h3 (by rw [e];rfl)),SS.out⟩
      · have t6 : decide (6 < k) = false := by simp; omega
        clear N4
        obtain ⟨kn,rfl⟩:=Int.eq_ofNat_of_zero_le (hk).1
        have kl:kn < ys.length:=by have:=(hk).2;omega
        have kl':(kn:Int) < (ys.length:Int):=by omega
        have C5:=hide (l1Chance_any w3 s g a c xs (t+1+1+1) 2 S3 (hr.only OO3 hne) hne hb hl (by omega) (by omega) (by decide) (by decide))
        go_wp2_with fail
        refine C5.out.mono ?_
        rintro e w5 ⟨b5,rfl,S5,O5⟩
        have OO5:=OO3.trans O5
        clear C5
        cases b5 with
        | true =>
          have W5:=hR.only OO5 hsb
          obtain ⟨g3,cap3,e3,-,-,CE,FR,ST,-⟩:=W5.parts y0
          cases e3
          have ce:=CE kn kl
          have fr:=FR kn
          have bz:=yb kn
          have wz:Hid (IntKind.u8.wrap (ys.getD kn 0+1)=(ys.getD kn 0+1) % 256):=by show _=_;simp [IntKind.wrap,IntKind.signed,IntKind.bits]
          generalize ys.getD kn 0=x at *
          have st:=fun z=>hide (ST kn z kl)
          have yb':=byt_setR yb kn ((x+1) % 256) (by omega) (by omega)
          have yl:Hid ((ys.set kn ((x+1) % 256)).length=ys.length):=List.length_set ..
          have NB:Below s w (w5.setCell ⟨g2,kn,none⟩ (.int .u8 ((x+1) % 256))):=((Below.refl s w).trans (OO5.below (Nat.le_refl _))).setCell (p:=⟨g2,kn,none⟩) (by show s≤g2;omega) _
          have KP:=hide (show ∀ k,k < w.heap.size→k≠s→k≠g2→(w5.setCell ⟨g2,kn,none⟩ (.int .u8 ((x+1) % 256))).heap[k]?=w.heap[k]? from fun k _ h1 h2=>((Only.setCell w5 g2 kn _).block k h2).trans (OO5.block k h1))
          have SS:=hide (show ∃ u,Src (w5.setCell ⟨g2,kn,none⟩ (.int .u8 ((x+1) % 256))) s a xs.length c u∧0≤u∧u≤t+10 from ⟨_,S5.of_block ((Only.setCell w5 g2 kn _).block s (by omega)),by omega,by omega⟩)
          clear CE FR ST W5
          go_wp2
          go_ret
          exact ⟨_,_,rfl,yb',by rw [yl.out];omega,(st _).out,NB,fun k h1 h2 h3=>KP.out k h1 h2 (fun e=>h3 (by rw [e];rfl)),SS.out⟩
        | false =>
          have N6:=hide (l1NextB_any w5 s g a c xs (t+1+1+1+1) 256 S5 (hr.only OO5 hne) hne hb hl (by omega) (by omega) (by decide) (by decide))
          go_wp2_with fail
          refine N6.out.mono ?_
          rintro e w6 ⟨z,rfl,h6,S6,O6⟩
          have OO6:=OO5.trans O6
          have W6:=hR.only OO6 hsb
          obtain ⟨g3,cap3,e3,-,-,CE,FR,ST,-⟩:=W6.parts y0
          cases e3
          have ce:=CE kn kl
          have fr:=FR kn
          have st:=hide (ST kn z kl)
          have yb':=byt_setR yb kn z h6.1 h6.2
          have yl:Hid ((ys.set kn z).length=ys.length):=List.length_set ..
          have NB:Below s w (w6.setCell ⟨g2,kn,none⟩ (.int .u8 z)):=((Below.refl s w).trans (OO6.below (Nat.le_refl _))).setCell (p:=⟨g2,kn,none⟩) (by show s≤g2;omega) _
          have KP:=hide (show ∀ k,k < w.heap.size→k≠s→k≠g2→(w6.setCell ⟨g2,kn,none⟩ (.int .u8 z)).heap[k]?=w.heap[k]? from fun k _ h1 h2=>((Only.setCell w6 g2 kn _).block k h2).trans (OO6.block k h1))
          have SS:=hide (show ∃ u,Src (w6.setCell ⟨g2,kn,none⟩ (.int .u8 z)) s a xs.length c u∧0≤u∧u≤t+10 from ⟨_,S6.of_block ((Only.setCell w6 g2 kn _).block s (by omega)),by omega,by omega⟩)
          clear CE FR ST W6 N6
          generalize ys.getD kn 0=x at *
          go_wp2
          go_ret
          exact ⟨_,_,rfl,yb',by rw [yl.out];omega,st.out,NB,fun k h1 h2 h3=>KP.out k h1 h2 (fun e=>h3 (by rw [e];rfl)),SS.out⟩
end Go.Proofs.YtmmbkkfjiaoeiaaGreat
namespace Go.Proofs.YtmmbkkfjiaoeiaaGreat
open Go Go.RowKit
def beN (xs:List Int) (i:Nat):Nat→Int
 | 0=>0
 | k+1=>beN xs i k*256+xs.getD (i+k) 0
theorem beN_rng {xs:List Int} (h:Byt xs) (i:Nat):∀ k,0≤beN xs i k∧beN xs i k < 256 ^ k
  | 0=>⟨Int.le_refl _,by simp [beN]⟩
  | k + 1 => by
    have ih:=beN_rng h i k
    have b:=h (i+k)
    rw [beN,Int.pow_succ]
    omega
theorem Rd.of_block' {w w':World} {g:Nat} {a:Option Addr} {k:IntKind} {xs:List Int} (h:Rd w g a k xs) (hb:0 < xs.length→w'.heap[g]?=w.heap[g]?):Rd w' g a k xs:=by
 by_cases h0:0 < xs.length
 ·exact h.of_block (hb h0)
 ·exact fun q=>absurd q h0
end Go.Proofs.YtmmbkkfjiaoeiaaGreat
namespace Go.Proofs.YtmmbkkfjiaoeiaaGreat
open Go Go.RowKit
def isAg (n:Int):Bool:=decide (0≤n) && decide (n≤4294967295)
end Go.Proofs.YtmmbkkfjiaoeiaaGreat
namespace Go.Proofs.YtmmbkkfjiaoeiaaGreat
open Go Go.RowKit
def isTm (n:Int):Bool:=decide (0≤n) && decide (n≤253402300799)
def isLi (n:Int):Bool:=decide (1≤n) && decide (n≤604800)
def sfV (n n':Nat) (md li:Int) (ho:List UInt8) (p:Nat) (ea:Int):Int :=
 if n≠32∨n'≠32 then 1 else if isTm md=false then 2 else if isLi li=false then 3 else if nameF ho≠0 then 4 else if 32 < p then 5 else if isAg ea=false then 6 else 0
end Go.Proofs.YtmmbkkfjiaoeiaaGreat
namespace Go.Proofs.YtmmbkkfjiaoeiaaGreat
open Go Go.RowKit
theorem RwC.at_base {w w':World} {q B:Nat} {cs:List Value} {t:TypeId} (h:RwC w q cs t) (n:Below B w w') (hq:q < B):RwC w' q cs t:=(n.block q hq).trans h
def esL (X Y:List Int) (md li:Int) (ho pr:List UInt8) (ea:Int):List Int:=X ++ Y ++ bigL md 8 ++ bigL li 4 ++ bigL ea 4 ++ shL ho ++ shL pr
def esA (X Y:List Int) (md li:Int) (ho pr:List UInt8) (ea:Int):List Int:=if sfV X.length Y.length md li ho pr.length ea=0 then esL X Y md li ho pr ea else []
end Go.Proofs.YtmmbkkfjiaoeiaaGreat
namespace Go.Proofs.YtmmbkkfjiaoeiaaGreat
open Go Go.RowKit
def tkB (xs:List Int) (i n:Nat):List Int:=fill (fun k=>xs.getD (i+k) 0) n
theorem tkB_len (xs:List Int) (i n:Nat):(tkB xs i n).length=n:=fill_len _ _
theorem tkB_get (xs:List Int) (i n k:Nat) (h:k < n):(tkB xs i n).getD k 0=xs.getD (i+k) 0:=fill_get _ _ _ h
theorem tkB_byt {xs:List Int} (h:Byt xs) (i n:Nat):Byt (tkB xs i n):=fun k=>by
 by_cases hk:k < n
 ·rw [tkB_get _ _ _ _ hk];exact h _
 ·rw [List.getD_eq_getElem?_getD, List.getElem?_eq_none (by rw [tkB_len]; omega)]
  exact ⟨by simp,by simp⟩
def NewI (p:Nat) (w w':World):Prop:=w'.os=w.os∧w'.tape=w.tape∧w'.output=w.output∧w.heap.size≤w'.heap.size∧∀ b,b < w.heap.size→b≠p→w'.heap[b]?=w.heap[b]?
theorem NewI.below {p B:Nat} {w w':World} (h:NewI p w w') (hB:B≤p) (hw:B≤w.heap.size):Below B w w':=⟨h.1,h.2.1,h.2.2.1,h.2.2.2.1,fun k hk=>h.2.2.2.2 k (by omega) (by omega)⟩
theorem NewI.block {p b:Nat} {w w':World} (h:NewI p w w') (hb:b < w.heap.size) (hne:b≠p):w'.heap[b]?=w.heap[b]?:=h.2.2.2.2 b hb hne
theorem NewI.refl (p:Nat) (w:World):NewI p w w:=⟨rfl,rfl,rfl,Nat.le_refl _,fun _ _ _=>rfl⟩
theorem NewI.trans {p:Nat} {a b c:World} (h:NewI p a b) (k:NewI p b c):NewI p a c :=
 ⟨k.1.trans h.1,k.2.1.trans h.2.1,k.2.2.1.trans h.2.2.1,Nat.le_trans h.2.2.2.1 k.2.2.2.1,fun x hx hn=>(k.2.2.2.2 x (Nat.lt_of_lt_of_le hx h.2.2.2.1) hn).trans (h.2.2.2.2 x hx hn)⟩
theorem NewI.of_below {p:Nat} {w w':World} (h:Below w.heap.size w w'):NewI p w w':=⟨h.os,h.tape,h.output,h.size,fun b hb _=>h.block b hb⟩
theorem NewI.of_only {p:Nat} {w w':World} (h:Only p w w'):NewI p w w':=⟨h.os,h.tape,h.output,Nat.le_of_eq h.size.symm,fun b _ hn=>h.block b hn⟩
def nmV (xs:List Int) (i n:Nat):Int:=wrap64 (beN xs i n)
theorem nmV_small {xs:List Int} (hb:Byt xs) (i n:Nat) (hn:n≤7):nmV xs i n=beN xs i n:=by
 have r:=beN_rng hb i n
 have r1:beN xs i n < 72057594037927936:=by
  rcases (by omega:n=0∨n=1∨n=2∨n=3∨n=4∨n=5∨n=6∨n=7) with rfl | rfl | rfl | rfl | rfl | rfl | rfl | rfl
  all_goals (have:=r.2;simp at this;omega)
 unfold nmV wrap64
 omega
end Go.Proofs.YtmmbkkfjiaoeiaaGreat
namespace Go.Proofs.YtmmbkkfjiaoeiaaGreat
open Go Go.RowKit
def txB (xs:List Int):List UInt8:=xs.map fun n=>UInt8.ofNat n.toNat
theorem txB_len (xs:List Int):(txB xs).length=xs.length:=by simp [txB]
theorem str_is (xs:List Int):str xs=⟨⟨txB xs⟩⟩:=by
 have h:=str_data xs ByteArray.empty
 have e:(str xs).data=⟨txB xs⟩:=by
  unfold str
  rw [h]
  show (#[]:Array UInt8) ++ (txB xs).toArray=_
  simp
 calc str xs=⟨(str xs).data⟩:=rfl
  _=_:=by rw [e]
theorem tkB_take (xs:List Int) (i n:Nat) (h:i+n≤xs.length):(xs.drop i).take n=tkB xs i n:=by
 apply eq_of_getD
 ·rw [List.length_take,List.length_drop,tkB_len];omega
 ·intro k hk
  rw [List.length_take,List.length_drop] at hk
  rw [tkB_get _ _ _ _ (by omega),List.getD_eq_getElem?_getD,List.getElem?_take,if_pos (by omega),List.getElem?_drop,← List.getD_eq_getElem?_getD]
def dn1 (b:List Int):Nat:=(beN b 80 1).toNat
def dn2 (b:List Int):Nat:=(beN b (81+dn1 b) 1).toNat
def dX (b:List Int):List Int:=tkB b 0 32
def dY (b:List Int):List Int:=tkB b 32 32
def dM (b:List Int):Int:=nmV b 64 8
def dL (b:List Int):Int:=nmV b 72 4
def dE (b:List Int):Int:=nmV b 76 4
def dH (b:List Int):List UInt8:=txB (tkB b 81 (dn1 b))
def dP (b:List Int):List UInt8:=txB (tkB b (82+dn1 b) (dn2 b))
def dsB (b:List Int):Bool:=decide (sfV (dX b).length (dY b).length (dM b) (dL b) (dH b) (dP b).length (dE b)=0) && decide (esA (dX b) (dY b) (dM b) (dL b) (dH b) (dP b) (dE b)=b)
end Go.Proofs.YtmmbkkfjiaoeiaaGreat
namespace Go.Proofs.YtmmbkkfjiaoeiaaGreat
open Go Go.RowKit
set_option maxHeartbeats 2000000 in
theorem takeList_end (w : World) (p : Nat) (a : Option Addr) (m c : Nat) (hC : Cur w p (.slice a m c) (m : Int)) (hc0 : a = none → c = 0) (hc : m ≤ c) (hn : m ≤ 1048576) :
  Calls Tryz.prog 105 #[.pointer (some ⟨p,0,none⟩),.int .i64 0] w fun e w'=>e = .returned (.slice (some ⟨w.heap.size,0,none⟩) 0 0)∧Blk w' w.heap.size .u8 []∧Cur w' p (.slice a m c) (m:Int)∧Kp p w w':=by
 obtain ⟨i0,hi0,hz0,hz1,hz2⟩:=info_parts Tryz.info5
 have c0:=hC.c0
 have c1:=hC.c1
 have t1:decide ((m:Int) - (m:Int) < 0)=false:=by simp
 have q0:(m:Int)≤1048576:=by omega
 have j2:(m:Int)≤(c:Int):=by omega
 have WR:IntKind.i64.wrap ((m:Int)+0)=(m:Int):=by rw [wrap_i64];omega
 have WR':IntKind.i64.wrap (m:Int)=(m:Int):=by rw [wrap_i64];omega
 have hcp:=fun sp sc W=>hide (run_copy_none (P:=Tryz.prog) W 22 22 3 5 (some ⟨w.heap.size,0,none⟩) sp 0 0 0 sc Tryz.underlying22 rowU8' (by simp))
 by_cases ha:a=none
 ·subst ha
  obtain rfl:=hc0 rfl
  obtain rfl:m=0:=by omega
  go_enter Tryz.func105,Tryz.ntmps105
  go_wp2
  go_quiet (fail)
  go_upto_region 4 with (at_make;refine wpList_make_full _ rfl _ _ 22 rfl w.heap.size 5 i0 (.int .u8 0) 1 Tryz.underlying22 hi0 hz0 hz1 .i64 .i64 _ _ 0 rfl rfl rfl rfl (by rw [hz2];omega) (by unfold maxLen;omega) (Nat.le_refl _) ?_;intro w3 hown hgrow)
  have B3:Blk w3 w.heap.size .u8 []:=Blk.of_made hown
  have n3:Below w.heap.size w w3:=(below_drewN (Below.refl _ _) nq).grown hgrow (Nat.le_refl _) (by simp)
  clear hown hgrow
  have C3:=hC.up n3
  have d0:=C3.c0
  have d1:=C3.c1
  have f1:=C3.f1
  have pl:=hC.lt
  have C5:=C3.store (0)
  have N5:Kp p w (w3.setCell ⟨p,1,none⟩ (.int .i64 (0))):=(below_kp n3).trans (Only.setCell _ _ _ _).kp
  have B5:Blk (w3.setCell ⟨p,1,none⟩ (.int .i64 (0))) w.heap.size .u8 []:=B3.of_block ((Only.setCell w3 p 1 _).block _ (by omega))
  have HC:=(hcp none 0 w3.drew).out
  go_region_with (first | (refine step_copy_ex rfl (.tmp 25) (.tmp 34) 22 22 rfl _ _ rfl rfl _ _ HC ?_) | fail)
  all_goals
   go_wp2
   go_ret
   exact ⟨rfl,B5,C5,⟨N5.os,N5.tape,N5.output,N5.size,N5.block⟩⟩
 ·obtain ⟨ad, rfl⟩ := Option.ne_none_iff_exists'.1 ha
  by_cases hcm:c=m
  ·subst hcm
   go_enter Tryz.func105,Tryz.ntmps105
   go_wp2
   go_quiet (fail)
   go_upto_region 4 with (at_make;refine wpList_make_full _ rfl _ _ 22 rfl w.heap.size 5 i0 (.int .u8 0) 1 Tryz.underlying22 hi0 hz0 hz1 .i64 .i64 _ _ 0 rfl rfl rfl rfl (by rw [hz2];omega) (by unfold maxLen;omega) (Nat.le_refl _) ?_;intro w3 hown hgrow)
   have B3:Blk w3 w.heap.size .u8 []:=Blk.of_made hown
   have n3:Below w.heap.size w w3:=(below_drewN (Below.refl _ _) nq).grown hgrow (Nat.le_refl _) (by simp)
   clear hown hgrow
   have C3:=hC.up n3
   have d0:=C3.c0
   have d1:=C3.c1
   have f1:=C3.f1
   have pl:=hC.lt
   have C5:=C3.store ((c:Int))
   have N5:Kp p w (w3.setCell ⟨p,1,none⟩ (.int .i64 ((c:Int)))):=(below_kp n3).trans (Only.setCell _ _ _ _).kp
   have B5:Blk (w3.setCell ⟨p,1,none⟩ (.int .i64 ((c:Int)))) w.heap.size .u8 []:=B3.of_block ((Only.setCell w3 p 1 _).block _ (by omega))
   have HC:=(hcp (some ad) 0 w3.drew).out
   go_region_with (first | (refine step_copy_ex rfl (.tmp 25) (.tmp 34) 22 22 rfl _ _ rfl rfl _ _ HC ?_) | fail)
   all_goals
    go_wp2
    go_ret
    exact ⟨rfl,B5,C5,⟨N5.os,N5.tape,N5.output,N5.size,N5.block⟩⟩
  ·go_enter Tryz.func105, Tryz.ntmps105
   go_wp2
   go_quiet (fail)
   go_upto_region 4 with (at_make;refine wpList_make_full _ rfl _ _ 22 rfl w.heap.size 5 i0 (.int .u8 0) 1 Tryz.underlying22 hi0 hz0 hz1 .i64 .i64 _ _ 0 rfl rfl rfl rfl (by rw [hz2];omega) (by unfold maxLen;omega) (Nat.le_refl _) ?_;intro w3 hown hgrow)
   have B3:Blk w3 w.heap.size .u8 []:=Blk.of_made hown
   have n3:Below w.heap.size w w3:=(below_drewN (Below.refl _ _) nq).grown hgrow (Nat.le_refl _) (by simp)
   clear hown hgrow
   have C3:=hC.up n3
   have d0:=C3.c0
   have d1:=C3.c1
   have f1:=C3.f1
   have pl:=hC.lt
   have C5:=C3.store ((m:Int))
   have N5:Kp p w (w3.setCell ⟨p,1,none⟩ (.int .i64 ((m:Int)))):=(below_kp n3).trans (Only.setCell _ _ _ _).kp
   have B5:Blk (w3.setCell ⟨p,1,none⟩ (.int .i64 ((m:Int)))) w.heap.size .u8 []:=B3.of_block ((Only.setCell w3 p 1 _).block _ (by omega))
   have HC:=(hcp (some (ad.add m)) (c - m) w3.drew).out
   go_region_with (first | (refine step_copy_ex rfl (.tmp 25) (.tmp 34) 22 22 rfl _ _ rfl rfl _ _ HC ?_) | fail)
   all_goals
    go_wp2
    go_ret
    exact ⟨rfl,B5,C5,⟨N5.os,N5.tape,N5.output,N5.size,N5.block⟩⟩
end Go.Proofs.YtmmbkkfjiaoeiaaGreat
namespace Go.Proofs.YtmmbkkfjiaoeiaaGreat
open Go Go.RowKit
set_option maxRecDepth 100000 in
theorem takeList_any (w:World) (p g:Nat) (a:Option Addr) (c:Nat) (xs:List Int) (i n:Nat) (hC:Cur w p (.slice a xs.length c) i) (hr:Rd w g a .u8 xs) (hc0:a=none→c=0) (hc:xs.length≤c) (hn:xs.length≤1048576) (hi:i≤xs.length) (hin:i+n≤xs.length) :
  Calls Tryz.prog 105 #[.pointer (some ⟨p,0,none⟩),.int .i64 (n:Int)] w fun e w'=>e = .returned (.slice (some ⟨w.heap.size,0,none⟩) n n)∧Blk w' w.heap.size .u8 ((xs.drop i).take n)∧Cur w' p (.slice a xs.length c) ((i+n:Nat):Int)∧Kp p w w':=by
 by_cases h:i < xs.length
 ·exact takeList_mid w p g a c xs i n hC hr hc hn h hin
 ·obtain rfl : i = xs.length := by omega
  obtain rfl:n=0:=by omega
  have:=takeList_end w p a xs.length c hC hc0 hc hn
  simpa using this
set_option maxRecDepth 100000 in
set_option maxHeartbeats 1000000 in
theorem takeList_bad (w:World) (p:Nat) (a:Option Addr) (m c i n:Nat) (hC:Cur w p (.slice a m c) i) (hin:m < i+n) (hm:m≤1048576) (hi:i≤m) :
  Calls Tryz.prog 105 #[.pointer (some ⟨p,0,none⟩),.int .i64 (n:Int)] w fun e w'=>Pan e∧Only p w w':=by
 have c0:=hC.c0
 have c1:=hC.c1
 have t1:decide ((m:Int) - (i:Int) < (n:Int))=true:=by simp;omega
 clear hC
 go_enter Tryz.func105,Tryz.ntmps105
 go_wp2
 go_quiet (fail)
 go_wp2
 exact ⟨rfl,⟨_,_,rfl⟩,Only.drewN w p _⟩
end Go.Proofs.YtmmbkkfjiaoeiaaGreat
namespace Go.Proofs.YtmmbkkfjiaoeiaaGreat
open Go Go.RowKit
theorem or_wrap (m x:Int) (x0:0≤x) (x1:x < 256):bits .or .i64 (wrap64 (m*256)) x=wrap64 (wrap64 (m*256)+x):=by
 have e:wrap64 (m*256)=(wrap64 (m*256) / 256)*256:=by unfold wrap64;omega
 have b0 : -9223372036854775808≤wrap64 (m*256):=by unfold wrap64;omega
 have b1:wrap64 (m*256) < 9223372036854775808:=by unfold wrap64;omega
 have:=or_byte (wrap64 (m*256) / 256) x (by omega) (by omega) x0 x1
 rw [← e] at this
 rw [this]
 generalize hv:wrap64 (m*256)=v at *
 unfold wrap64
 omega
theorem nmV_step (xs:List Int) (i k:Nat):nmV xs i (k+1)=wrap64 (wrap64 (nmV xs i k*256)+xs.getD (i+k) 0):=by
 unfold nmV wrap64
 simp only [beN]
 omega
set_option maxRecDepth 100000 in
set_option maxHeartbeats 1000000 in
theorem numberG_any (w:World) (p g:Nat) (a:Option Addr) (c:Nat) (xs:List Int) (i t:Nat) (hC:Cur w p (.slice a xs.length c) i) (hr:Rd w g a .u8 xs) (hb:Byt xs) (hgp:0 < xs.length→g≠p) (hi:i+t≤xs.length) (ht:t≤8) (hn:xs.length≤4194304) :
  Calls Tryz.prog 64 #[.pointer (some ⟨p,0,none⟩),.int .i64 (t:Int)] w fun e w'=>e = .returned (.int .i64 (nmV xs i t))∧Cur w' p (.slice a xs.length c) ((i+t:Nat):Int)∧Only p w w':=by
 go_enter Tryz.func64,Tryz.ntmps64
 go_wp2
 go_loopw [5,7] (fun v j wr=>∃ k:Nat,k≤t∧v = .int .i64 (nmV xs i k)∧j = .int .i64 k∧Cur wr p (.slice a xs.length c) ((i+k:Nat):Int)∧Only p w wr) (fun _ j _=>t - (intOf j).toNat)
 case atStart=>exact ⟨0,Nat.zero_le _,by rw [show nmV xs i 0=0 by unfold nmV wrap64 beN;decide],rfl,hC,Only.refl _ _⟩
 case round =>
  obtain ⟨k,hk,rfl,rfl,C,O⟩:=hrel
  by_cases hlt:k < t
  ·have TK := hide (take_ok wr p g a c xs (i + k) C (hr.of_block' (fun h => O.block g (hgp h))) (by omega) (by omega))
   have bx:=hb (i+k)
   have OR:=or_wrap (nmV xs i k) (xs.getD (i+k) 0) bx.1 bx.2
   have e:=hide (nmV_step xs i k)
   generalize nmV xs i k=m at *
   generalize xs.getD (i+k) 0=x at *
   have x0:=bx.1
   have x1:=bx.2
   have k1:(k:Int) < (t:Int):=by omega
   clear bx C
   go_wp2_with fail
   refine TK.out.mono ?_
   rintro r w' ⟨rfl,C',O'⟩
   clear TK
   go_wp2
   go_roundw
   case rel=>exact ⟨k+1,by omega,by rw [e.out],by go_num,C',O.trans O'⟩
   case measure=>simp [intOf];omega
  ·obtain rfl : k = t := by omega
   go_wp2
   go_ret
   exact ⟨rfl,C,O⟩
set_option maxRecDepth 100000 in
set_option maxHeartbeats 1000000 in
theorem number_bad (w:World) (p g:Nat) (a:Option Addr) (c:Nat) (xs:List Int) (i t:Nat) (hC:Cur w p (.slice a xs.length c) i) (hr:Rd w g a .u8 xs) (hgp:0 < xs.length→g≠p) (hi:i≤xs.length) (hit:xs.length < i+t) (ht:t≤8) (hn:xs.length≤4194304) :
  Calls Tryz.prog 64 #[.pointer (some ⟨p,0,none⟩),.int .i64 (t:Int)] w fun e w'=>Pan e∧Only p w w':=by
 go_enter Tryz.func64,Tryz.ntmps64
 go_wp2
 go_loopw [5,7] (fun v j wr=>∃ (k:Nat) (m:Int),i+k≤xs.length∧v = .int .i64 m∧j = .int .i64 k∧Cur wr p (.slice a xs.length c) ((i+k:Nat):Int)∧Only p w wr) (fun _ j _=>t - (intOf j).toNat)
 case atStart=>exact ⟨0,0,hi,rfl,rfl,hC,Only.refl _ _⟩
 case round =>
  obtain ⟨k,m,hk,rfl,rfl,C,O⟩:=hrel
  have k1:(k:Int) < (t:Int):=by omega
  by_cases hlt:i+k < xs.length
  ·have TK := hide (take_ok wr p g a c xs (i + k) C (hr.of_block' (fun h => O.block g (hgp h))) (by omega) (by omega))
   generalize xs.getD (i+k) 0=x at *
   clear C
   go_wp2_with fail
   refine TK.out.mono ?_
   rintro r w' ⟨rfl,C',O'⟩
   clear TK
   go_wp2
   go_roundw
   case rel=>exact ⟨k+1,_,by omega,rfl,by go_num,C',O.trans O'⟩
   case measure=>simp [intOf];omega
  ·have TK := hide (take_bad wr p a xs.length c ((i + k : Nat) : Int) C (by omega))
   clear C
   go_wp2_with fail
   refine TK.out.mono ?_
   rintro r w' ⟨⟨u,v,rfl⟩,O'⟩
   clear TK
   go_wp2
   exact ⟨rfl,⟨_,_,rfl⟩,O.trans O'⟩
end Go.Proofs.YtmmbkkfjiaoeiaaGreat
namespace Go.Proofs.YtmmbkkfjiaoeiaaGreat
open Go Go.RowKit
end Go.Proofs.YtmmbkkfjiaoeiaaGreat
namespace Go.Proofs.YtmmbkkfjiaoeiaaGreat
open Go Go.RowKit
end Go.Proofs.YtmmbkkfjiaoeiaaGreat
namespace Go.Proofs.YtmmbkkfjiaoeiaaGreat
open Go Go.RowKit
end Go.Proofs.YtmmbkkfjiaoeiaaGreat
namespace Go.Proofs.YtmmbkkfjiaoeiaaGreat
open Go Go.RowKit
def NewR (B:Nat) (w':World) (e:Ending) (gd:Bool) (xs ys:List Int) (md li:Int) (ho pr:List UInt8) (ea:Int):Prop :=
 ∃ (a:Option Addr) (c g:Nat) (a':Option Addr) (c' g':Nat),e = .returned (.agg #[.bool gd,.slice a xs.length c,.slice a' ys.length c',.int .i64 md,.int .i64 li,.string ⟨⟨ho⟩⟩,.string ⟨⟨pr⟩⟩,.int .i64 ea])∧Own w' g a .u8 xs∧Own w' g' a' .u8 ys∧g≠g'∧B≤g∧g < w'.heap.size∧B≤g'∧g' < w'.heap.size
def rX (b:List Int):List Int:=if dsB b=true then dX b else []
def rY (b:List Int):List Int:=if dsB b=true then dY b else []
def rM (b:List Int):Int:=if dsB b=true then dM b else 0
def rL (b:List Int):Int:=if dsB b=true then dL b else 0
def rH (b:List Int):List UInt8:=if dsB b=true then dH b else []
def rP (b:List Int):List UInt8:=if dsB b=true then dP b else []
def rE (b:List Int):Int:=if dsB b=true then dE b else 0
def NewD (B:Nat) (w':World) (e:Ending) (b:List Int):Prop:=NewR B w' e (dsB b) (rX b) (rY b) (rM b) (rL b) (rH b) (rP b) (rE b)
theorem NewD.bad {B:Nat} {w':World} {b:List Int} (h:dsB b=false) {g g':Nat} (hne:g≠g') (l1:B≤g) (l2:B≤g') (k1:g < w'.heap.size) (k2:g' < w'.heap.size) :
  NewD B w' (.returned (.agg #[.bool false,.slice none 0 0,.slice none 0 0,.int .i64 0,.int .i64 0,.string ⟨#[]⟩,.string ⟨#[]⟩,.int .i64 0])) b:=by
 have h':¬ dsB b=true:=by rw [h];decide
 unfold NewD rX rY rM rL rH rP rE
 rw [if_neg h',if_neg h',if_neg h',if_neg h',if_neg h',if_neg h',if_neg h',h]
 exact ⟨none,0,g,none,0,g',rfl,Own.nil _ _ _ _,Own.nil _ _ _ _,hne,l1,k1,l2,k2⟩
theorem Cur.onl {w w':World} {p q:Nat} {l:Value} {i:Int} (h:Cur w p l i) (n:Only q w w') (hne:p≠q):Cur w' p l i:=h.of_block (n.block p hne)
end Go.Proofs.YtmmbkkfjiaoeiaaGreat
namespace Go.Proofs.YtmmbkkfjiaoeiaaGreat
open Go Go.RowKit
theorem RwC.kp {w w':World} {q p:Nat} {cs:List Value} {t:TypeId} (h:RwC w q cs t) (n:Kp p w w') (hq:q≠p):RwC w' q cs t:=(n.block q h.lt hq).trans h
theorem Blk.kp {w w':World} {q p:Nat} {k:IntKind} {ys:List Int} (h:Blk w q k ys) (n:Kp p w w') (hq:q≠p):Blk w' q k ys:=h.of_block (n.block q h.lt hq)
theorem Kp.onl {p q:Nat} {a b c:World} (h:Kp p a b) (k:Only q b c) (hq:a.heap.size≤q):Kp p a c :=
 ⟨k.os.trans h.os,k.tape.trans h.tape,k.output.trans h.output,by rw [k.size];exact h.size,fun i hi hp=>(k.block i (by omega)).trans (h.block i hi hp)⟩
set_option maxRecDepth 100000 in
set_option maxHeartbeats 2000000 in
theorem short_any (w:World) (p g:Nat) (a:Option Addr) (c:Nat) (xs:List Int) (i:Nat) (hC:Cur w p (.slice a xs.length c) i) (hr:Rd w g a .u8 xs) (hb:Byt xs) (hgp:0 < xs.length→g≠p) (hc0:a=none→c=0) (hc:xs.length≤c) (hn:xs.length≤1048576) (hi:i≤xs.length) :
  Calls Tryz.prog 102 #[.pointer (some ⟨p,0,none⟩)] w fun e w'=>((i+1+(beN xs i 1).toNat≤xs.length∧e = .returned (.string ⟨⟨txB (tkB xs (i+1) (beN xs i 1).toNat)⟩⟩)∧Cur w' p (.slice a xs.length c) ((i+1+(beN xs i 1).toNat:Nat):Int))∨(xs.length < i+1+(beN xs i 1).toNat∧Pan e))∧Kp p w w':=by
 by_cases h1:i+1≤xs.length
 ·have NM := hide (numberG_any w p g a c xs i 1 hC hr hb hgp h1 (by omega) (by omega))
  rw [nmV_small hb i 1 (by decide)] at NM
  have r:=beN_rng hb i 1
  obtain ⟨n,hn1⟩:=Int.eq_ofNat_of_zero_le r.1
  have e1:(beN xs i 1).toNat=n:=by omega
  rw [e1]
  rw [hn1] at NM
  clear hn1 e1 r hC
  go_enter Tryz.func102,Tryz.ntmps102
  go_wp2_with fail
  refine NM.out.mono ?_
  rintro e w1 ⟨rfl,C1,O1⟩
  clear NM
  have hr1:=hr.of_block' (fun h=>O1.block g (hgp h))
  by_cases h2:i+1+n≤xs.length
  ·have TL := hide (takeList_any w1 p g a c xs (i + 1) n C1 hr1 hc0 hc hn h1 h2)
   rw [tkB_take xs (i+1) n h2] at TL
   have H2:=hide h2
   clear C1 hr1 h2
   go_wp2_with fail
   refine TL.out.mono ?_
   rintro e w2 ⟨rfl,B2,C2,K2⟩
   have cv:=conv_run w2 _ _ n _ B2.own0.rd
   rw [tkB_len,str_is] at cv
   have KK:=O1.kp.trans K2
   clear TL B2 K2 O1
   go_wp2
   go_ret
   exact ⟨.inl ⟨H2.out,rfl,C2⟩,KK⟩
  ·have TL := hide (takeList_bad w1 p a xs.length c (i + 1) n C1 (by omega) hn h1)
   have H2:=hide (show xs.length < i+1+n by omega)
   clear C1 hr1 h2
   go_wp2_with fail
   refine TL.out.mono ?_
   rintro e w2 ⟨⟨t,v,rfl⟩,O2⟩
   go_wp2
   exact ⟨rfl,.inr ⟨H2.out,t,v,rfl⟩,O1.kp.trans O2.kp⟩
 ·have NM := hide (number_bad w p g a c xs i 1 hC hr hgp hi (by omega) (by omega) (by omega))
  have H2:=hide (show xs.length < i+1+(beN xs i 1).toNat by omega)
  clear hC h1
  go_enter Tryz.func102,Tryz.ntmps102
  go_wp2_with fail
  refine NM.out.mono ?_
  rintro e w2 ⟨⟨t,v,rfl⟩,O2⟩
  go_wp2
  exact ⟨rfl,.inr ⟨H2.out,t,v,rfl⟩,O2.kp⟩
end Go.Proofs.YtmmbkkfjiaoeiaaGreat
namespace Go.Proofs.YtmmbkkfjiaoeiaaGreat
open Go Go.RowKit
set_option maxRecDepth 100000 in
set_option maxHeartbeats 2000000 in
theorem long_any (w:World) (p g:Nat) (a:Option Addr) (c:Nat) (xs:List Int) (i:Nat) (hC:Cur w p (.slice a xs.length c) i) (hr:Rd w g a .u8 xs) (hb:Byt xs) (hgp:0 < xs.length→g≠p) (hc0:a=none→c=0) (hc:xs.length≤c) (hn:xs.length≤1048576) (hi:i≤xs.length) :
  Calls Tryz.prog 104 #[.pointer (some ⟨p,0,none⟩)] w fun e w'=>((i+2+(beN xs i 2).toNat≤xs.length∧(∃ G,e = .returned (.slice (some ⟨G,0,none⟩) (beN xs i 2).toNat (beN xs i 2).toNat)∧Blk w' G .u8 (tkB xs (i+2) (beN xs i 2).toNat)∧w.heap.size≤G)∧Cur w' p (.slice a xs.length c) ((i+2+(beN xs i 2).toNat:Nat):Int))∨(xs.length < i+2+(beN xs i 2).toNat∧Pan e))∧Kp p w w':=by
 by_cases h1:i+2≤xs.length
 ·have NM := hide (numberG_any w p g a c xs i 2 hC hr hb hgp h1 (by omega) (by omega))
  rw [nmV_small hb i 2 (by decide)] at NM
  have r:=beN_rng hb i 2
  obtain ⟨n,hn1⟩:=Int.eq_ofNat_of_zero_le r.1
  have e1:(beN xs i 2).toNat=n:=by omega
  rw [e1]
  rw [hn1] at NM
  clear hn1 e1 r hC
  go_enter Tryz.func104,Tryz.ntmps104
  go_wp2_with fail
  refine NM.out.mono ?_
  rintro e w1 ⟨rfl,C1,O1⟩
  clear NM
  have hr1:=hr.of_block' (fun h=>O1.block g (hgp h))
  by_cases h2:i+2+n≤xs.length
  ·have TL := hide (takeList_any w1 p g a c xs (i + 2) n C1 hr1 hc0 hc hn h1 h2)
   rw [tkB_take xs (i+2) n h2] at TL
   have H2:=hide h2
   clear C1 hr1 h2
   go_wp2_with fail
   refine TL.out.mono ?_
   rintro e w2 ⟨rfl,B2,C2,K2⟩
   have KK:=O1.kp.trans K2
   have sz:=O1.size
   rw [sz] at B2
   have HB:=hide B2
   clear TL B2 K2 O1
   go_wp2
   go_ret
   exact ⟨.inl ⟨H2.out,⟨_,rfl,HB.out,by omega⟩,C2⟩,KK⟩
  ·have TL := hide (takeList_bad w1 p a xs.length c (i + 2) n C1 (by omega) hn h1)
   have H2:=hide (show xs.length < i+2+n by omega)
   clear C1 hr1 h2
   go_wp2_with fail
   refine TL.out.mono ?_
   rintro e w2 ⟨⟨t,v,rfl⟩,O2⟩
   go_wp2
   exact ⟨rfl,.inr ⟨H2.out,t,v,rfl⟩,O1.kp.trans O2.kp⟩
 ·have NM := hide (number_bad w p g a c xs i 2 hC hr hgp hi (by omega) (by omega) (by omega))
  have H2:=hide (show xs.length < i+2+(beN xs i 2).toNat by omega)
  clear hC h1
  go_enter Tryz.func104,Tryz.ntmps104
  go_wp2_with fail
  refine NM.out.mono ?_
  rintro e w2 ⟨⟨t,v,rfl⟩,O2⟩
  go_wp2
  exact ⟨rfl,.inr ⟨H2.out,t,v,rfl⟩,O2.kp⟩
end Go.Proofs.YtmmbkkfjiaoeiaaGreat
namespace Go.Proofs.YtmmbkkfjiaoeiaaGreat
open Go Go.RowKit
def Kq (p q:Nat) (w w':World):Prop:=Tch [p,q] w w'
theorem Kp.tch {p:Nat} {w w':World} (h:Kp p w w'):Tch [p] w w':=⟨h.os,h.tape,h.output,h.size,fun b hb hn=>h.block b hb (by simpa using hn)⟩
set_option maxRecDepth 100000 in
set_option maxHeartbeats 2000000 in
theorem proofRead_any (w:World) (q p g:Nat) (a:Option Addr) (c:Nat) (xs:List Int) (t:TypeId) (hq:RwC w q [.slice none 0 0] t) (hqp:q≠p) (hC:Cur w p (.slice a xs.length c) ((0:Nat):Int)) (hr:Rd w g a .u8 xs) (hc0:a=none→c=0) (hc:xs.length≤c) (hn:xs.length≤1048576) :
  Calls Tryz.prog 138 #[.pointer (some ⟨q,0,none⟩),.pointer (some ⟨p,0,none⟩)] w fun e w'=>((64≤xs.length∧e = .returned (.tuple #[])∧RwC w' q [.slice (some ⟨w.heap.size,0,none⟩) 64 64] t∧Blk w' w.heap.size .u8 (xs.take 64))∨(xs.length < 64∧Pan e))∧Kq p q w w':=by
 have hql:=hq.lt
 by_cases h:64≤xs.length
 ·have TL := hide (takeList_any w p g a c xs 0 64 hC hr hc0 hc hn (Nat.zero_le _) (by omega))
  have HQ:=hide hq
  have H:=hide h
  clear hC hr hq h
  go_enter Tryz.func138,Tryz.ntmps138
  go_wp2_with fail
  refine TL.out.mono ?_
  rintro e w2 ⟨rfl,B2,-,K2⟩
  have Q2:=HQ.out.kp K2 hqp
  have c0:w2.cell? ⟨q,0,none⟩=some (.slice none 0 0):=Q2.cell 0
  have f0:=Q2.free 0
  have O:=Only.setCell w2 q 0 (.slice (some ⟨w.heap.size,0,none⟩) 64 64)
  have FQ:Hid (RwC (w2.setCell ⟨q,0,none⟩ (.slice (some ⟨w.heap.size,0,none⟩) 64 64)) q [.slice (some ⟨w.heap.size,0,none⟩) 64 64] t):=Q2.set 0 _
  have FB:=hide (B2.of_block (O.block w.heap.size (by omega)))
  have FT:Hid (Kq p q w (w2.setCell ⟨q,0,none⟩ (.slice (some ⟨w.heap.size,0,none⟩) 64 64))):=K2.tch.trans (Tch.of_only O)
  clear TL B2 K2 Q2 O HQ
  go_wp2
  go_end0
  exact ⟨.inl ⟨H.out,rfl,FQ.out,FB.out⟩,FT.out⟩
 ·have TL := hide (takeList_bad w p a xs.length c 0 64 hC (by omega) hn (Nat.zero_le _))
  have H:=hide (show xs.length < 64 by omega)
  clear hC hr hq h
  go_enter Tryz.func138,Tryz.ntmps138
  go_wp2_with fail
  refine TL.out.mono ?_
  rintro e w2 ⟨⟨t,v,rfl⟩,O2⟩
  go_wp2
  exact ⟨rfl,.inr ⟨H.out,t,v,rfl⟩,(Tch.of_only O2).mono (by simp)⟩
end Go.Proofs.YtmmbkkfjiaoeiaaGreat
