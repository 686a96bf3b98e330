import Derived.Test.YtnpolopcgmjmnaaGreatDoorVF40
namespace Go.Proofs.YtnpolopcgmjmnaaGreatDoor
set_option maxRecDepth 100000
open Go Go.RowKit
def rootB (A:Int):Bool:=decide (r1S (A % PP)*r1S (A % PP) % PP=A % PP)
def rootV (A:Int):Int:=if rootB A=true then fin2 (r1S (A % PP)) else 0
def rt0 (A:Int):Int:=A ^ eRt
def tw2:Int:=2 ^ eI
theorem rt0_mod (A:Int):rt0 A % PP=rtR (A % PP):=by
 unfold rt0 rtR
 exact pow_mod (Int.emod_emod_of_dvd _ (Int.dvd_refl _)).symm _
theorem tw2_mod:tw2 % PP=iM % PP:=by
 unfold tw2
 rw [two_pow_i]
 decide
theorem rtR_mod5 (A:Int):rtR A % PP=rtR A:=Int.emod_emod_of_dvd _ (Int.dvd_refl _)
theorem first_is {A:Int} (h:(rt0 A*rt0 A) % PP=A % PP):rt0 A % PP=r1S (A % PP) % PP:=by
 have e:rtR (A % PP)*rtR (A % PP) % PP=A % PP:=by rw [← rt0_mod,← Int.mul_emod];exact h
 rw [r1S,if_pos e,rtR_mod5,rt0_mod]
theorem second_is {A:Int} (h:¬ (rt0 A*rt0 A) % PP=A % PP):(rt0 A*tw2) % PP=r1S (A % PP) % PP:=by
 have e:¬ rtR (A % PP)*rtR (A % PP) % PP=A % PP:=by rw [← rt0_mod,← Int.mul_emod];exact h
 rw [r1S,if_neg e,Int.emod_emod_of_dvd _ (Int.dvd_refl _)]
 exact mod_mul (by rw [rt0_mod,rtR_mod5]) tw2_mod
theorem Elt.cg {W:World} {q o:Nat} {A B:Int} (h:Elt W q o A) (e:A % PP=B % PP):Elt W q o B:=by
 obtain ⟨t,r,l,L,V⟩:=h
 exact ⟨t,r,l,L,V.trans e⟩
theorem elt_new5 (W:World) (t:TypeId) {a:Nat→Int} {A:Int} (ha:L16 a∧s16 a 16 % PP=A % PP):Elt (W.alloc (.cells (a16 a) t)) W.heap.size 0 A :=
 Elt.ofR (R16.ofBlk (blk16 W t a)) ha.1 ha.2
theorem results_two5 {fn:Func} {s p:Tmp} (h:fn.results = #[.tmp s,.cell p 36]) (tmps:Array Value) (w:World) (g:Nat) (cs:Array Value) (b:Bool)
  (hs:tmps.getD s undef = .bool b) (hp:tmps.getD p undef = .pointer (some ⟨g,0,none⟩)) (hg:w.rangeAt g 0 cs.toList) (hi:(Tryz.prog.info? 36).map (·.size)=some cs.size) :
  (results fn tmps).run Tryz.prog w = .ok (.tuple #[.bool b,.agg cs]) w:=by
 have hs':tmps[s]?.getD undef = .bool b:=by simpa using hs
 have hp':tmps[p]?.getD undef = .pointer (some ⟨g,0,none⟩):=by simpa using hp
 have hl:=run_loadVar_mid (P:=Tryz.prog) w g 0 36 cs.toList (.array 16 2) hg Go.Proofs.YtnpolopcgmjmnaaGreatDoor.u50 rfl (by simpa using hi)
 simp [results,h,hs',hp',asAddr,hl]
theorem en_shift:enters Tryz.prog 54=true:=by kernel_rfl
theorem en_same:enters Tryz.prog 59=true:=by kernel_rfl
section
variable {ops : Array Oper} {Q : Exit → Act → World → Prop} {md : Region.Mode} {F : Nat → Fact} {a0 : Act} {w0 : World} {i : Nat} {o : Oper} {ts : Array TypeId}
theorem step_one8 (hi:ops[i]?=some o) (d:Int) (hop:o.op = .buildSlice 22 1 #[(0,.const (.int .u8 d))]) (hF:F i=RW (fun xs=>xs=[d])):StepOk Tryz.prog md ops Q F a0 w0 i:=by
 refine step_grow hi fun a W _ _ _=>⟨.slice (some ⟨W.heap.size,0,none⟩) 1 1,W.alloc (.cells #[.int .u8 d] 5),?_,(Below.refl _ _).alloc (Nat.le_refl _) _,by rw [hF];exact ⟨[d],_,_,W.heap.size,rfl,Blk.own0 ⟨5,by rw [heap_alloc_last];rfl⟩,rfl⟩⟩
 simp only [execOp,hop]
 go_simp
theorem step_sh252 (hi:ops[i]?=some o) (p j:Nat) (hop:o.op = .call { callee := .value (.func 54),args := #[.tmp p,.const (.int .i64 252)],argTypes:=ts })
  (hj:waits md ops i j p=true) (hFj:F j=RW (fun xs=>xs=[1])) (hFi:F i=RW (fun xs=>Canon xs 7237005577332262213973186563042994240829374041602535252466099000494570602496)):StepOk Tryz.prog md ops Q F a0 w0 i:=by
 refine step_call hi _ _ ts hop en_shift fun a w _ _ hF=>?_
 have ea:=hF j p hj
 rw [hFj] at ea
 obtain ⟨xs,b,c,g,e1,ow,rfl⟩:=ea
 obtain ⟨off,rfl,_⟩:=ow (by simp)
 show Calls Tryz.prog 54 #[a.tmps.getD p undef,.int .i64 252] w _
 rw [e1]
 refine (l1Shift252_any w g _ c [1] ow.rd (byt_one (by omega) (by omega)) (by simp) (by simp)).mono ?_
 rintro r w' ⟨ys,C,⟨a',c',g',rfl,o',_,_,_⟩,n'⟩
 have e1:bval [1]=1:=by decide
 rw [e1,Int.one_mul] at C
 rw [hFi]
 exact ⟨_,rfl,n',ys,a',c',g',rfl,o',C⟩
theorem step_sh253 (hi:ops[i]?=some o) (p j:Nat) (hop:o.op = .call { callee := .value (.func 54),args := #[.tmp p,.const (.int .i64 253)],argTypes:=ts })
  (hj:waits md ops i j p=true) (hFj:F j=RW (fun xs=>xs=[1])) (hFi:F i=RW (fun xs=>Canon xs 14474011154664524427946373126085988481658748083205070504932198000989141204992)):StepOk Tryz.prog md ops Q F a0 w0 i:=by
 refine step_call hi _ _ ts hop en_shift fun a w _ _ hF=>?_
 have ea:=hF j p hj
 rw [hFj] at ea
 obtain ⟨xs,b,c,g,e1,ow,rfl⟩:=ea
 obtain ⟨off,rfl,_⟩:=ow (by simp)
 show Calls Tryz.prog 54 #[a.tmps.getD p undef,.int .i64 253] w _
 rw [e1]
 refine (l1Shift253_any w g _ c [1] ow.rd (byt_one (by omega) (by omega)) (by simp) (by simp)).mono ?_
 rintro r w' ⟨ys,C,⟨a',c',g',rfl,o',_,_,_⟩,n'⟩
 have e1:bval [1]=1:=by decide
 rw [e1,Int.one_mul] at C
 rw [hFi]
 exact ⟨_,rfl,n',ys,a',c',g',rfl,o',C⟩
theorem step_l1sub (hi:ops[i]?=some o) (p q j k:Nat) (A d B:Int) (hA:A < 256 ^ 64) (hd:0≤d∧d < 256) (h1:0 < A∧d≤A) (hB:A - d=B) (hop:o.op = .call { callee := .value (.func 61),args := #[.tmp p,.tmp q],argTypes:=ts })
  (hj:waits md ops i j p=true) (hk:waits md ops i k q=true) (hFj:F j=RW (fun xs=>Canon xs A)) (hFk:F k=RW (fun xs=>xs=[d])) (hFi:F i=RW (fun xs=>Canon xs B)):StepOk Tryz.prog md ops Q F a0 w0 i:=by
 refine step_call hi _ _ ts hop en_l1Sub fun a W _ _ hF=>?_
 have ea:=hF j p hj
 have eb:=hF k q hk
 rw [hFj] at ea
 rw [hFk] at eb
 obtain ⟨xs,b,c,g,e1,o1,C⟩:=ea
 obtain ⟨ys,b',c',g',e2,o2,rfl⟩:=eb
 show Calls Tryz.prog 61 #[a.tmps.getD p undef,a.tmps.getD q undef] W _
 rw [e1,e2]
 have L:xs.length≤64:=C.len hA
 have P1:1≤xs.length:=canon_ge1 C h1.1
 have E2:bval [d]=d:=by simp [bval]
 refine (l1Sub_any W g g' b b' c c' xs [d] o1.rd o2.rd C.1 (byt_one hd.1 hd.2) (by omega) (by simpa using P1) (by rw [C.2.1,E2];exact h1.2)).mono ?_
 rintro r W' ⟨zs,D,⟨a',c',g',rfl,o',_,_,_⟩,n'⟩
 rw [C.2.1,E2,hB] at D
 rw [hFi]
 exact ⟨_,rfl,n',zs,_,_,_,rfl,o',D⟩
theorem step_pow (hi:ops[i]?=some o) (p q j k:Nat) (A:Int) (e:Nat) (he:(e:Int) < 256 ^ 64) (hop:o.op = .call { callee := .value (.func 60),args := #[.tmp p,.tmp q],argTypes:=ts })
  (hj:waits md ops i j p=true) (hk:waits md ops i k q=true) (hFj:F j=EL A) (hFk:F k=RW (fun xs=>Canon xs (e:Int))) (hFi:F i=EL (A ^ e)):StepOk Tryz.prog md ops Q F a0 w0 i:=by
 refine step_call hi _ _ ts hop en_power fun a W _ _ hF=>?_
 have ea:=hF j p hj
 have eb:=hF k q hk
 rw [hFj] at ea
 rw [hFk] at eb
 obtain ⟨t,e1,L1,V1⟩:=ea
 obtain ⟨ys,b',c',g',e2,o2,C⟩:=eb
 show Calls Tryz.prog 60 #[a.tmps.getD p undef,a.tmps.getD q undef] W _
 rw [e1,e2]
 have L:ys.length≤4096:=by
  have:=C.len he
  omega
 refine (l2Power_any W t g' b' c' ys L1 o2.rd C.1 L).mono ?_
 rintro r W' ⟨u,rfl,LT,VT,n'⟩
 rw [hFi]
 refine ⟨_,rfl,n',u,rfl,LT,?_⟩
 rw [VT,canon_nat C]
 exact pow_mod V1 _
theorem step_same (hi:ops[i]?=some o) (p q j k:Nat) (A B:Int) (hop:o.op = .call { callee := .value (.func 59),args := #[.tmp p,.tmp q],argTypes:=ts })
  (hj:waits md ops i j p=true) (hk:waits md ops i k q=true) (hFj:F j=EL A) (hFk:F k=EL B) (hFi:F i=Fact.eq (.bool (decide (A % PP=B % PP)))):StepOk Tryz.prog md ops Q F a0 w0 i:=by
 refine step_call hi _ _ ts hop en_same fun a w _ _ hF=>?_
 have ea:=hF j p hj
 have eb:=hF k q hk
 rw [hFj] at ea
 rw [hFk] at eb
 obtain ⟨t,e1,L1,V1⟩:=ea
 obtain ⟨u,e2,L2,V2⟩:=eb
 show Calls Tryz.prog 59 #[a.tmps.getD p undef,a.tmps.getD q undef] w _
 rw [e1,e2]
 refine (l2Same_any w t u L1 L2).mono ?_
 rintro r w' ⟨rfl,hn⟩
 exact ⟨_,rfl,hn,by rw [hFi,V1,V2];exact rfl⟩
theorem step_notb {P:Program} (hi:ops[i]?=some o) (p j:Nat) {b:Bool} {t:TypeId} (hop:o.op = .unOp .not t (.tmp p)) (hj:waits md ops i j p=true) (hFj:F j=Fact.eq (.bool b)) (hFi:F i=Fact.eq (.bool (!b))):StepOk P md ops Q F a0 w0 i:=by
 refine step_pure hi fun a w _ _ hf=>⟨.bool (!b),?_,by rw [hFi];exact rfl⟩
 have e:=hf j p hj
 rw [hFj] at e
 have e':a.eval (.tmp p) = .bool b:=e
 simp only [execOp,hop,e']
 rfl
theorem step_const {P:Program} (hi:ops[i]?=some o) {v:Value} (hop:o.op = .move (.const v)∨o.op = .assign (.const v)) (hF:F i=Fact.eq v):StepOk P md ops Q F a0 w0 i:=by
 refine step_pure hi fun a w _ _ _=>⟨v,?_,by rw [hF];exact rfl⟩
 rcases hop with h | h <;> simp [execOp,h,Act.eval]
end
section
variable {ops : Array Oper} {Q : Exit → Act → World → Prop} {a0 : Act} {w : World} {id : Nat} {draw : Bool}
theorem region_put16F (k jV pD pV:Nat) (o:Oper) (F:Nat→Fact) (A:Int) (q:Nat) (hT:textOk .any ops a0.tmps.size k=true) (hk:ops[k]?=some o) (hd:o.dst=none) (hop:o.op = .store 36 (.tmp pD) (.tmp pV))
  (hp:apart ops pD=true) (h0:a0.tmps.getD pD undef = .pointer (some ⟨q,0,none⟩)) (ht:w.there q 0 16) (wV:writes ops jV pV=true) (FV:F jV=EL A) (steps:∀ i,i < k→StepOk Tryz.prog .any ops Q F a0 w i)
  (fin:∀ (vs:Nat→Value) (W W':World),Below w.heap.size w W→ButQ q w W'→Elt W' q 0 A→W'.there q 0 16→(∀ (w1:World) (B:Nat),Below B w1 W→B≤q→Below B w1 W')→(∀ i d,writes ops i d=true→∃ Wp,(F i).p (vs d) Wp)→Q .normal (puts vs a0 ops.toList) W') :
  (Code.region id ops draw).wp Tryz.prog Q a0 w:=by
 refine region_store k o F (by kernel_rfl) hT hk hd steps fun a W hb hw hF=>?_
 have h2:=hF jV pV wV
 rw [FV] at h2
 obtain ⟨t,ev,L,V⟩:=h2
 have th:=there_up (by omega) ht hw
 refine wp_store_mid 36 (.tmp pD) (.tmp pV) hop q 0 (a16 t) ((based_at hb pD hp).trans h0) ev (by rw [a16_size];exact th) (by rw [a16_size];exact i50) (a16_one t) ?_
 obtain ⟨vs,hvs⟩:∃ vs:Nat→Value,∀ d,a.tmps.getD d undef=vs d:=⟨_,fun _=>rfl⟩
 rw [hd]
 show Q .normal a _
 rw [puts_of hT rfl hb vs hvs]
 exact fin vs W _ hw (but_set hw _) (set_elt th L V) (World.there_setCells th _ _ _) (fun w1 B n hB=>below_setCells hB _ _ _ n) (fun i d h=>⟨W,by rw [← hvs];exact hF i d h⟩)
end
set_option maxHeartbeats 4000000 in
theorem l2RootF_any (w : World) (f : Nat → Int) (hf : L16 f) (A : Int) (hA : s16 f 16 % PP = A % PP) :
  Calls Tryz.prog 57 #[ag16 f] w fun r w'=>∃ t,r = .returned (.tuple #[.bool (rootB A),ag16 t])∧L16 t∧s16 t 16 % PP=rootV A % PP∧Below w.heap.size w w':=by
 show Calls Tryz.prog 57 #[.agg (a16 f)] w _
 have H1:=elt_new5 w 36 ⟨hf,hA⟩
 have m1:Below w.heap.size w (w.alloc (.cells (a16 f) 36)):=(Below.refl _ _).alloc (Nat.le_refl _) _
 have s1:(w.alloc (.cells (a16 f) 36)).heap.size=w.heap.size+1:=by simp
 obtain ⟨V1,hV1⟩:∃ V,V=a16 f:=⟨_,rfl⟩
 rw [← hV1] at H1 m1 s1 ⊢
 clear hV1 hf hA
 go_enter Tryz.func57,Tryz.ntmps57
 go_upto_region 1 with fail
 generalize w.alloc (.cells V1 36)=wa at *
 change Code.wp _ _ _ _ (wa.alloc zObj)
 have TR:(wa.alloc zObj).there wa.heap.size 0 16:=there_new wa _ _
 have m2:Below wa.heap.size wa (wa.alloc zObj):=(Below.refl _ _).alloc (Nat.le_refl _) _
 rw [s1] at TR
 have EA:=H1.up m2
 have N:=nxt m1 m2
 clear H1 m1 m2 s1
 generalize wa.alloc zObj=wr at *
 have zr:=there_lt (by omega) TR
 refine region_new16 7 6 5 4 10 _ (fun i=>[EL (A),RW (fun xs=>xs=[1]),RW (fun xs=>Canon xs 7237005577332262213973186563042994240829374041602535252466099000494570602496),RW (fun xs=>xs=[2]),RW (fun xs=>Canon xs (eRt:Int)),EL (rt0 A),NB wr 16].getD i Fact.no) (rt0 A) (by kernel_rfl) rfl rfl rfl (by kernel_rfl) (by kernel_rfl) rfl rfl ?_ ?_
 ·intro i hi
  obtain rfl | rfl | rfl | rfl | rfl | rfl | rfl:i=0∨i=1∨i=2∨i=3∨i=4∨i=5∨i=6:=by omega
  ·exact step_el rfl 36 1 rfl Go.Proofs.YtnpolopcgmjmnaaGreatDoor.u50 i50 (by kernel_rfl) _ _ rfl _ EA rfl
  ·exact step_one8 rfl 1 rfl rfl
  ·exact step_sh252 rfl 6 1 rfl (by kernel_rfl) rfl rfl
  ·exact step_one8 rfl 2 rfl rfl
  ·exact step_l1sub rfl 7 8 2 3 _ 2 _ (by decide) (by decide) (by decide) (by decide) rfl (by kernel_rfl) (by kernel_rfl) rfl rfl rfl
  ·exact step_pow rfl 5 9 0 4 _ eRt (by decide) rfl (by kernel_rfl) (by kernel_rfl) rfl rfl rfl
  ·exact step_new16 rfl rfl rfl
 intro vs1 q4 W1 v4 h4 n1 E4 T4
 replace EA:=EA.up n1
 replace TR:=there_up (by omega) TR n1
 replace N:=nxt N n1
 clear n1
 simp only [puts,v4,Act.put,List.setIfInBounds_toArray,List.set_cons_succ,List.set_cons_zero]
 clear v4
 have ne1:w.heap.size≠q4:=by omega
 have ne2:w.heap.size+1≠q4:=by omega
 go_upto_region 2 with fail
 refine region_end 6 (fun i=>[EL (rt0 A),EL (rt0 A),EL ((rt0 A)*(rt0 A)),EL (A),Fact.eq (.bool (decide (((rt0 A)*(rt0 A)) % PP=(A) % PP))),Fact.eq (.bool (!decide (((rt0 A)*(rt0 A)) % PP=(A) % PP)))].getD i Fact.no) (by kernel_rfl) (by kernel_rfl) rfl ?_ ?_
 ·intro i hi
  obtain rfl | rfl | rfl | rfl | rfl | rfl:i=0∨i=1∨i=2∨i=3∨i=4∨i=5:=by omega
  ·exact step_el rfl 36 4 rfl Go.Proofs.YtnpolopcgmjmnaaGreatDoor.u50 i50 (by kernel_rfl) _ _ rfl _ E4 rfl
  ·exact step_el rfl 36 4 rfl Go.Proofs.YtnpolopcgmjmnaaGreatDoor.u50 i50 (by kernel_rfl) _ _ rfl _ E4 rfl
  ·exact step_mul rfl 11 12 0 1 _ _ rfl (by kernel_rfl) (by kernel_rfl) rfl rfl rfl
  ·exact step_el rfl 36 1 rfl Go.Proofs.YtnpolopcgmjmnaaGreatDoor.u50 i50 (by kernel_rfl) _ _ rfl _ EA rfl
  ·exact step_same rfl 13 14 2 3 _ _ rfl (by kernel_rfl) (by kernel_rfl) rfl rfl rfl
  ·exact step_notb rfl 15 4 rfl (by kernel_rfl) rfl rfl
 intro aa2 W2 hb hw hF
 have ev:=hF 5 16 (by kernel_rfl)
 obtain ⟨vs2,hvs⟩:∃ vs:Nat→Value,∀ d,aa2.tmps.getD d undef=vs d:=⟨_,fun _=>rfl⟩
 rw [hvs] at ev
 rw [puts_of (md := .any) (k:=6) (by kernel_rfl) rfl hb vs2 hvs]
 replace EA:=EA.up hw
 replace E4:=E4.up hw
 replace T4:=there_up (by omega) T4 hw
 replace TR:=there_up (by omega) TR hw
 replace N:=nxt N hw
 clear hb hF hvs hw
 change vs2 16 = .bool (!decide ((rt0 A*rt0 A) % PP=A % PP)) at ev
 simp only [puts,ev,Act.put,List.setIfInBounds_toArray,List.set_cons_succ,List.set_cons_zero]
 clear ev
 go_upto_if 16 with fail
 go_cut [4] (fun v wc=>v = .pointer (some ⟨q4,0,none⟩)∧Elt wc q4 0 (r1S (A % PP))∧wc.there q4 0 16∧Elt wc w.heap.size 0 A∧wc.there (w.heap.size+1) 0 16∧Below w.heap.size w wc)
 case first =>
  by_cases hq:(rt0 A*rt0 A) % PP=A % PP
  ·rw [decide_eq_true hq]
   replace E4:=E4.cg (first_is hq)
   clear hq
   go_wp2_with fail
   go_meet
   exact ⟨rfl,E4,T4,EA,TR,N⟩
  ·rw [decide_eq_false hq]
   have HQ:=hide (second_is hq)
   clear hq
   go_upto_region 3 with fail
   refine region_put16 8 7 4 24 _ (fun i=>[EL (rt0 A),EL 2,RW (fun xs=>xs=[1]),RW (fun xs=>Canon xs 14474011154664524427946373126085988481658748083205070504932198000989141204992),RW (fun xs=>xs=[5]),RW (fun xs=>Canon xs (eI:Int)),EL tw2,EL ((rt0 A)*(tw2))].getD i Fact.no) ((rt0 A)*(tw2)) _ (by kernel_rfl) rfl rfl rfl (by kernel_rfl) rfl T4 (by kernel_rfl) rfl ?_ ?_
   ·intro i hi
    obtain rfl | rfl | rfl | rfl | rfl | rfl | rfl | rfl:i=0∨i=1∨i=2∨i=3∨i=4∨i=5∨i=6∨i=7:=by omega
    ·exact step_el rfl 36 4 rfl Go.Proofs.YtnpolopcgmjmnaaGreatDoor.u50 i50 (by kernel_rfl) _ _ rfl _ E4 rfl
    ·exact step_small rfl 2 (by omega) rfl rfl
    ·exact step_one8 rfl 1 rfl rfl
    ·exact step_sh253 rfl 19 2 rfl (by kernel_rfl) rfl rfl
    ·exact step_one8 rfl 5 rfl rfl
    ·exact step_l1sub rfl 20 21 3 4 _ 5 _ (by decide) (by decide) (by decide) (by decide) rfl (by kernel_rfl) (by kernel_rfl) rfl rfl rfl
    ·exact step_pow rfl 18 22 1 5 2 eI (by decide) rfl (by kernel_rfl) (by kernel_rfl) rfl rfl rfl
    ·exact step_mul rfl 17 23 0 6 _ _ rfl (by kernel_rfl) (by kernel_rfl) rfl rfl rfl
   intro vs3 Wa W3 na bq E4n T4n nb
   replace N:=nb w w.heap.size (nxt N na) (by omega)
   replace EA:=EA.but bq ne1
   replace TR:=there_but (by omega) TR bq ne2
   replace E4n:=E4n.cg HQ.out
   clear na bq nb E4 T4
   simp only [puts,Act.put,List.setIfInBounds_toArray,List.set_cons_succ,List.set_cons_zero]
   go_wp2_with fail
   go_meet
   exact ⟨rfl,E4n,T4n,EA,TR,N⟩
 case rest =>
  clear E4 T4 EA TR N
  obtain ⟨rfl,E4,T4,EA,TR,N⟩:=hcut
  obtain ⟨r1,hr1⟩:∃ r,r=r1S (A % PP):=⟨_,rfl⟩
  rw [← hr1] at E4
  have HR:=hide hr1
  have rb:=hide (show 0≤r1∧r1 < PP by rw [hr1];exact r1S_bd _)
  clear hr1
  go_upto_region 4 with fail
  refine region_end 6 (fun i=>[EL (r1),EL (r1),EL ((r1)*(r1)),EL (A),Fact.eq (.bool (decide (((r1)*(r1)) % PP=(A) % PP))),Fact.eq (.bool (!decide (((r1)*(r1)) % PP=(A) % PP)))].getD i Fact.no) (by kernel_rfl) (by kernel_rfl) rfl ?_ ?_
  ·intro i hi
   obtain rfl | rfl | rfl | rfl | rfl | rfl:i=0∨i=1∨i=2∨i=3∨i=4∨i=5:=by omega
   ·exact step_el rfl 36 4 rfl Go.Proofs.YtnpolopcgmjmnaaGreatDoor.u50 i50 (by kernel_rfl) _ _ rfl _ E4 rfl
   ·exact step_el rfl 36 4 rfl Go.Proofs.YtnpolopcgmjmnaaGreatDoor.u50 i50 (by kernel_rfl) _ _ rfl _ E4 rfl
   ·exact step_mul rfl 25 26 0 1 _ _ rfl (by kernel_rfl) (by kernel_rfl) rfl rfl rfl
   ·exact step_el rfl 36 1 rfl Go.Proofs.YtnpolopcgmjmnaaGreatDoor.u50 i50 (by kernel_rfl) _ _ rfl _ EA rfl
   ·exact step_same rfl 27 28 2 3 _ _ rfl (by kernel_rfl) (by kernel_rfl) rfl rfl rfl
   ·exact step_notb rfl 29 4 rfl (by kernel_rfl) rfl rfl
  intro aa4 W4 hb hw hF
  have ev:=hF 5 30 (by kernel_rfl)
  obtain ⟨vs4,hvs⟩:∃ vs:Nat→Value,∀ d,aa4.tmps.getD d undef=vs d:=⟨_,fun _=>rfl⟩
  rw [hvs] at ev
  rw [puts_of (md := .any) (k:=6) (by kernel_rfl) rfl hb vs4 hvs]
  replace EA:=EA.up hw
  replace E4:=E4.up hw
  replace T4:=there_up (by omega) T4 hw
  replace TR:=there_up (by omega) TR hw
  replace N:=nxt N hw
  clear hb hF hvs hw
  change vs4 30 = .bool (!decide ((r1*r1) % PP=A % PP)) at ev
  simp only [puts,ev,Act.put,List.setIfInBounds_toArray,List.set_cons_succ,List.set_cons_zero]
  clear ev
  by_cases hq:(r1*r1) % PP=A % PP
  ·have HB : Hid (rootB A = true) := by show _ = _; unfold rootB; rw [← HR.out]; exact decide_eq_true hq
   rw [decide_eq_true hq]
   clear hq
   have HV:Hid (rootV A=fin2 r1):=by show _=_;rw [rootV,if_pos HB.out,← HR.out]
   obtain ⟨u,rg,lq,LU,VU⟩:=id E4
   have BY:=l2Bytes_any W4 u LU
   rw [VU,Int.emod_eq_of_lt rb.out.1 rb.out.2] at BY
   have y0:(fill (byt r1) 32).getD 0 0=r1 % 256:=by rw [fill_get _ _ _ (by omega)];unfold byt;rw [Int.pow_zero,Int.ediv_one]
   have yl:=hide (fill_len (byt r1) 32)
   have ybd:0≤r1 % 256∧r1 % 256 < 256:=by omega
   have e1:=and1u8 _ ybd.1 ybd.2
   have e2:r1 % 256 % 2=r1 % 2:=by omega
   have yp:(0:Int) < ((fill (byt r1) 32).length:Int):=by rw [fill_len];omega
   generalize fill (byt r1) 32=ys at *
   go_wp2_with (refine wpList_load_mid rfl 36 (.tmp 4) rfl q4 0 rfl (a16 u).toList (.array 16 2) rg Go.Proofs.YtnpolopcgmjmnaaGreatDoor.u50 rfl (by rw [a16_len];exact i50) ?_)
   refine BY.mono ?_
   rintro r wd ⟨⟨aB,cB,gB,rfl,oB,pB,qB,rB⟩,nB⟩
   obtain ⟨off,rfl,hc⟩:=oB (by omega)
   have c0:=(hc 0 (by omega)).1
   rw [y0,Nat.add_zero] at c0
   replace EA:=EA.up nB
   replace E4:=E4.up nB
   replace T4:=there_up (by omega) T4 nB
   replace TR:=there_up (by omega) TR nB
   replace N:=nxt N nB
   clear BY oB pB qB rB nB hc rg lq LU VU y0
   by_cases hev:r1 % 2=0
   ·have hv : Hid (fin2 r1 = r1) := by show _ = _; rw [fin2, if_pos hev]
    have tb:(r1 % 256 % 2 == 1)=false:=by simp;omega
    clear hev
    go_upto_region 8 with fail
    refine region_put16F 2 0 3 41 _ (fun i=>[EL (r1),Fact.eq (.bool true)].getD i Fact.no) (r1) _ (by kernel_rfl) rfl rfl rfl (by kernel_rfl) rfl TR (by kernel_rfl) rfl ?_ ?_
    ·intro i hi
     obtain rfl | rfl:i=0∨i=1:=by omega
     ·exact step_el rfl 36 4 rfl Go.Proofs.YtnpolopcgmjmnaaGreatDoor.u50 i50 (by kernel_rfl) _ _ rfl _ E4 rfl
     ·exact step_const rfl (Or.inr rfl) rfl
    intro vs8 Wa W8 na bq E3n T3n nb hF
    obtain ⟨_,v2⟩:=hF 1 2 (by kernel_rfl)
    clear hF
    change vs8 2 = .bool true at v2
    have NS:=nb w w.heap.size (nxt N na) (by omega)
    simp only [puts,v2,Act.put,List.setIfInBounds_toArray,List.set_cons_succ,List.set_cons_zero]
    clear EA E4 T4 TR N v2
    obtain ⟨t,rg,_,L,V⟩:=E3n
    clear bq nb na T3n
    go_wp2
    exact bodyPost_ret (v := .tuple #[.bool true,.agg (a16 t)]) (results_two5 Tryz.results57 _ _ (w.heap.size+1) (a16 t) true rfl rfl rg (by rw [a16_size];exact i50)) rfl ⟨t,by rw [HB.out];rfl,L,by rw [V];exact (by rw [HV.out,hv.out]),NS⟩
   ·have hv : Hid (fin2 r1 % PP = (0 - r1) % PP) := by show _ = _; rw [fin2, if_neg hev, Int.emod_emod_of_dvd _ (Int.dvd_refl _)]
    have tb:(r1 % 256 % 2 == 1)=true:=by simp;omega
    clear hev
    go_upto_region 7 with fail
    refine region_put16 3 2 4 40 _ (fun i=>[EL 0,EL (r1),EL ((0) - (r1))].getD i Fact.no) ((0) - (r1)) _ (by kernel_rfl) rfl rfl rfl (by kernel_rfl) rfl T4 (by kernel_rfl) rfl ?_ ?_
    ·intro i hi
     obtain rfl | rfl | rfl:i=0∨i=1∨i=2:=by omega
     ·exact step_small rfl 0 (by omega) rfl rfl
     ·exact step_el rfl 36 4 rfl Go.Proofs.YtnpolopcgmjmnaaGreatDoor.u50 i50 (by kernel_rfl) _ _ rfl _ E4 rfl
     ·exact step_sub rfl 38 39 0 1 _ _ rfl (by kernel_rfl) (by kernel_rfl) rfl rfl rfl
    intro vs7 Wa W7 na bq E4n T4n nb
    replace N:=nb w w.heap.size (nxt N na) (by omega)
    replace TR:=there_but (by omega) TR bq ne2
    replace E4:=E4n
    clear na bq nb T4 EA T4n E4n
    simp only [puts,Act.put,List.setIfInBounds_toArray,List.set_cons_succ,List.set_cons_zero]
    go_upto_region 8 with fail
    refine region_put16F 2 0 3 41 _ (fun i=>[EL ((0) - (r1)),Fact.eq (.bool true)].getD i Fact.no) ((0) - (r1)) _ (by kernel_rfl) rfl rfl rfl (by kernel_rfl) rfl TR (by kernel_rfl) rfl ?_ ?_
    ·intro i hi
     obtain rfl | rfl:i=0∨i=1:=by omega
     ·exact step_el rfl 36 4 rfl Go.Proofs.YtnpolopcgmjmnaaGreatDoor.u50 i50 (by kernel_rfl) _ _ rfl _ E4 rfl
     ·exact step_const rfl (Or.inr rfl) rfl
    intro vs8 Wb W8 na bq E3n T3n nb hF
    obtain ⟨_,v2⟩:=hF 1 2 (by kernel_rfl)
    clear hF
    change vs8 2 = .bool true at v2
    have NS:=nb w w.heap.size (nxt N na) (by omega)
    simp only [puts,v2,Act.put,List.setIfInBounds_toArray,List.set_cons_succ,List.set_cons_zero]
    clear E4 TR N v2
    obtain ⟨t,rg,_,L,V⟩:=E3n
    clear bq nb na T3n
    go_wp2
    exact bodyPost_ret (v := .tuple #[.bool true,.agg (a16 t)]) (results_two5 Tryz.results57 _ _ (w.heap.size+1) (a16 t) true rfl rfl rg (by rw [a16_size];exact i50)) rfl ⟨t,by rw [HB.out];rfl,L,by rw [V];exact (by rw [HV.out];exact hv.out.symm),NS⟩
  ·have HB : Hid (rootB A = false) := by show _ = _; unfold rootB; rw [← HR.out]; exact decide_eq_false hq
   rw [decide_eq_false hq]
   clear hq
   go_upto_region 5 with fail
   refine region_put16F 2 0 3 31 _ (fun i=>[EL 0,Fact.eq (.bool false)].getD i Fact.no) (0) _ (by kernel_rfl) rfl rfl rfl (by kernel_rfl) rfl TR (by kernel_rfl) rfl ?_ ?_
   ·intro i hi
    obtain rfl | rfl:i=0∨i=1:=by omega
    ·exact step_small rfl 0 (by omega) rfl rfl
    ·exact step_const rfl (Or.inr rfl) rfl
   intro vs5 Wa W5 na bq E3n T3n nb hF
   obtain ⟨_,v2⟩:=hF 1 2 (by kernel_rfl)
   clear hF
   change vs5 2 = .bool false at v2
   have NS:=nb w w.heap.size (nxt N na) (by omega)
   simp only [puts,v2,Act.put,List.setIfInBounds_toArray,List.set_cons_succ,List.set_cons_zero]
   clear EA E4 T4 TR N v2
   obtain ⟨t,rg,_,L,V⟩:=E3n
   clear bq nb na T3n
   go_wp2
   exact bodyPost_ret (v := .tuple #[.bool false,.agg (a16 t)]) (results_two5 Tryz.results57 _ _ (w.heap.size+1) (a16 t) false rfl rfl rg (by rw [a16_size];exact i50)) rfl ⟨t,by rw [HB.out];rfl,L,by rw [V];exact (by rw [rootV,if_neg (by rw [HB.out];simp)]),NS⟩
end Go.Proofs.YtnpolopcgmjmnaaGreatDoor
namespace Go.Proofs.YtnpolopcgmjmnaaGreatDoor
set_option maxRecDepth 100000
open Go Go.RowKit
theorem sg_neg (x y:Int):decide (sg x y < 0)=decide (x < y):=by
 unfold sg
 by_cases h:x < y
 ·rw [if_pos h];simp [h]
 ·rw [if_neg h]
  by_cases h2:y < x
  ·rw [if_pos h2,decide_eq_false h];rfl
  ·rw [if_neg h2,decide_eq_false h];rfl
set_option maxHeartbeats 2000000 in
theorem specFieldCanonical_any (w:World) (g:Nat) (a:Option Addr) (c:Nat) (xs:List Int) (hr:Rd w g a .u8 xs) (hb:Byt xs) :
  Calls Tryz.prog 29 #[.slice a xs.length c] w fun e w'=>e = .returned (.bool (canN xs))∧Below w.heap.size w w':=by
 by_cases hl:xs.length=32
 ·have R1 := l2Num_any w g a c xs hr hb (by omega)
  have K:canN xs=decide (num xs < PP):=by simp [canN,hl]
  have hK:=hide K
  have hl':(xs.length:Int)=32:=by omega
  have hL:=hide hl
  clear K
  rw [hl] at R1 ⊢
  clear hl hl'
  go_enter Tryz.func29,Tryz.ntmps29
  go_wp2_with fail
  refine R1.mono ?_
  rintro e w1 ⟨ys,C,l1,⟨a1,c1,g1,rfl,o1,p1,p2,p3⟩,n1⟩
  go_wp2_with fail
  refine (l2Prime_any w1).mono ?_
  rintro e w2 ⟨rfl,B2,n2⟩
  go_wp2_with fail
  refine (l1Cmp_any w2 g1 _ a1 _ c1 32 ys pbytes (o1.up n2).rd B2.own0.rd C.1 pbytes_byt (by omega) (by decide)).mono ?_
  rintro e w3 ⟨rfl,rfl⟩
  have N:=nxt n1 n2
  have Q:Hid (decide (sg (bval ys) (bval pbytes) < 0)=canN xs):=by
   show _=_
   have hv:=C.2.1
   have e32:num xs=lsum (fun j=>xs.getD j 0) 32:=by unfold num;rw [hL.out]
   rw [hK.out,pbytes_val,hv,e32,sg_neg]
  generalize sg (bval ys) (bval pbytes)=s at *
  clear R1 C B2 n1 n2 o1 p1 p2 p3 l1
  go_wp2
  go_ret
  exact ⟨by rw [← Q.out];rfl,N⟩
 ·have K : canN xs = false := by simp [canN, hl]
  have hK:=hide K
  have t:((xs.length:Int) == 32)=false:=by simp;omega
  clear K hl
  go_enter Tryz.func29,Tryz.ntmps29
  go_wp2
  go_ret
  exact ⟨by rw [hK.out];rfl,Below.refl _ _⟩
theorem fxP (q:Nat) (w:World):(Instr.fieldAt 29 (.pointer (some ⟨q,0,none⟩)) 0).run Tryz.prog w = .ok (.pointer (some ⟨q,0,none⟩)) w:=by kernel_rfl
theorem fyP (q:Nat) (w:World):(Instr.fieldAt 29 (.pointer (some ⟨q,0,none⟩)) 1).run Tryz.prog w = .ok (.pointer (some ⟨q,1,none⟩)) w:=by kernel_rfl
def OfOk (W:World) (a:Option Addr) (xs:List Int):Prop:=∃ g,Rd W g a .u8 xs∧Byt xs∧xs.length=32
theorem of_ok {W:World} {g:Nat} {a:Option Addr} {xs:List Int} (h:Rd W g a .u8 xs) (b:Byt xs) (l:xs.length=32):OfOk W a xs:=⟨g,h,b,l⟩
section
variable {ops : Array Oper} {Q : Exit → Act → World → Prop} {md : Region.Mode} {F : Nat → Fact} {a0 : Act} {w0 : World} {i : Nat} {o : Oper} {ts : Array TypeId}
theorem step_move {P:Program} (hi:ops[i]?=some o) (p j:Nat) (hop:o.op = .move (.tmp p)∨o.op = .assign (.tmp p)) (hj:waits md ops i j p=true) (hF:F i=F j):StepOk P md ops Q F a0 w0 i:=by
 refine step_pure hi fun a w _ _ hf=>⟨a.eval (.tmp p),?_,by rw [hF];exact hf j p hj⟩
 rcases hop with h | h <;> simp [execOp,h]
theorem step_lds (hi:ops[i]?=some o) (p j:Nat) (hop:o.op = .load 22 (.tmp p)) (hj:waits md ops i j p=true) (q off:Nat) (hFj:F j=Fact.eq (.pointer (some ⟨q,off,none⟩))) (a:Option Addr) (n c:Nat)
  (hc:w0.cell? ⟨q,off,none⟩=some (.slice a n c)) (hF:F i=Fact.eq (.slice a n c)):StepOk Tryz.prog md ops Q F a0 w0 i:=by
 refine step_pure hi fun b w _ hw hf=>⟨_,?_,by rw [hF];exact rfl⟩
 have e:=hf j p hj
 rw [hFj] at e
 have e':b.eval (.tmp p) = .pointer (some ⟨q,off,none⟩):=e
 have hc':w.cell? ⟨q,off,none⟩=some (.slice a n c):=(hw.cell (block_lt_of_cell hc)).trans hc
 simp only [execOp,hop,e']
 go_simp
theorem step_of (hi:ops[i]?=some o) (p j:Nat) {a:Option Addr} {c:Nat} {xs:List Int} (hop:o.op = .call { callee := .value (.func 20),args := #[.tmp p],argTypes:=ts })
  (hj:waits md ops i j p=true) (hO:OfOk w0 a xs) (hFj:F j=Fact.eq (.slice a xs.length c)) (hFi:F i=EL (num xs)):StepOk Tryz.prog md ops Q F a0 w0 i:=by
 obtain ⟨g,hr,hb,hl⟩:=hO
 refine step_call hi _ _ ts hop en_of fun A w _ hw hF=>?_
 have ea:=hF j p hj
 rw [hFj] at ea
 have e1:A.tmps.getD p undef = .slice a 32 c:=by rw [← hl];exact ea
 show Calls Tryz.prog 20 #[A.tmps.getD p undef] w _
 rw [e1]
 refine (l2Of_any w g a c xs (hr.up hw) hb hl).mono ?_
 rintro r w' ⟨rfl,hn⟩
 rw [hFi]
 exact ⟨_,rfl,hn,_,rfl,of16_ok (fun j=>hb j),by rw [of16_val,num,hl]⟩
end
theorem two_cells (w:World) (u v:Value) (t:TypeId):(w.alloc (.cells #[u,v] t)).cell? ⟨w.heap.size,0,none⟩=some u∧(w.alloc (.cells #[u,v] t)).cell? ⟨w.heap.size,1,none⟩=some v:=by
 have e:(w.alloc (.cells #[u,v] t)).heap[w.heap.size]?=some (.cells #[u,v] t):=heap_alloc_last _ _
 constructor <;> (unfold World.cell?;simp only;rw [e];rfl)
theorem can_len {xs:List Int} (h:canN xs=true):xs.length=32:=by
 unfold canN at h
 simp at h
 exact h.1
def validN (x y:Int):Bool:=decide ((y*y - x*x) % PP=(1+dE*(x*x*(y*y))) % PP)
def validP (xs ys:List Int):Bool:=canN xs && canN ys && validN (num xs) (num ys)
set_option maxHeartbeats 2000000 in
theorem pointValid_any (w : World) (g g' : Nat) (a a' : Option Addr) (c c' : Nat) (xs ys : List Int) (hx : Rd w g a .u8 xs) (hy : Rd w g' a' .u8 ys) (bx : Byt xs) (by' : Byt ys) :
    Calls Tryz.prog 31 #[.agg #[.slice a xs.length c,.slice a' ys.length c']] w fun r w'=>r = .returned (.bool (validP xs ys))∧Below w.heap.size w w':=by
  have T:=two_cells w (.slice a xs.length c) (.slice a' ys.length c') 29
  have N:Below w.heap.size w (w.alloc (.cells #[.slice a xs.length c,.slice a' ys.length c'] 29)):=(Below.refl _ _).alloc (Nat.le_refl _) _
  obtain ⟨CX,CY⟩:=T
  have CN:=fun W h=>specFieldCanonical_any W g a c xs h bx
  have CM:=fun W h=>specFieldCanonical_any W g' a' c' ys h by'
  go_enter Tryz.func31,Tryz.ntmps31
  go_upto_region 1 with fail
  generalize w.alloc (.cells #[.slice a xs.length c,.slice a' ys.length c'] 29)=wa at *
  have RX:=hx.up N
  have RY:=hy.up N
  clear hx hy
  cases hkx:canN xs with
  | false =>
    have VP:validP xs ys=false:=by unfold validP;rw [hkx];rfl
    replace VP:=hide VP
    simp only [hkx] at CN
    go_wp2_with fail
    refine (CN wa RX).mono ?_
    rintro e w1 ⟨rfl,n1⟩
    have N1:=nxt N n1
    clear CN CM
    go_wp2
    go_ret
    exact ⟨by rw [VP.out];rfl,N1⟩
  | true =>
    simp only [hkx] at CN
    go_wp2_with fail
    refine (CN wa RX).mono ?_
    rintro e w1 ⟨rfl,n1⟩
    replace CX:=(n1.cell (block_lt_of_cell CX)).trans CX
    replace CY:=(n1.cell (block_lt_of_cell CY)).trans CY
    replace RX:=RX.up n1
    replace RY:=RY.up n1
    replace N:=nxt N n1
    clear n1 CN
    cases hky:canN ys with
    | false =>
      have VP:validP xs ys=false:=by unfold validP;rw [hkx,hky];rfl
      replace VP:=hide VP
      simp only [hky] at CM
      go_wp2_with fail
      refine (CM w1 RY).mono ?_
      rintro e w2 ⟨rfl,n2⟩
      have N1:=nxt N n2
      clear CM
      go_wp2
      go_ret
      exact ⟨by rw [VP.out];rfl,N1⟩
    | true =>
      have VP:validP xs ys=validN (num xs) (num ys):=by unfold validP;rw [hkx,hky];rfl
      replace VP:=hide VP
      have LX:=hide (can_len hkx)
      have LY:=hide (can_len hky)
      clear hkx
      simp only [hky] at CM
      go_wp2_with fail
      refine (CM w1 RY).mono ?_
      rintro e wr ⟨rfl,n2⟩
      replace CX:=(n2.cell (block_lt_of_cell CX)).trans CX
      replace CY:=(n2.cell (block_lt_of_cell CY)).trans CY
      replace RX:=RX.up n2
      replace RY:=RY.up n2
      replace N:=nxt N n2
      have OX:=hide (of_ok RX bx LX.out)
      have OY:=hide (of_ok RY by' LY.out)
      clear CM n2 hky
      go_upto_region 3 with fail
      refine region_new16 4 3 2 3 19 _ (fun i=>[Fact.eq (.pointer (some ⟨w.heap.size,0,none⟩)),Fact.eq (.slice a xs.length c),EL (num xs),NB wr 16].getD i Fact.no) (num xs) (by kernel_rfl) rfl rfl rfl (by kernel_rfl) (by kernel_rfl) rfl rfl ?_ ?_
      · intro i hi
        obtain rfl | rfl | rfl | rfl:i=0∨i=1∨i=2∨i=3:=by omega
        · exact step_fld rfl 29 1 0 rfl (by kernel_rfl) _ _ rfl (fxP _) rfl
        · exact step_lds rfl 17 0 rfl (by kernel_rfl) _ _ rfl _ _ _ CX rfl
        · exact step_of rfl 18 1 rfl (by kernel_rfl) OX.out rfl rfl
        · exact step_new16 rfl rfl rfl
      intro vs3 q3 W3 v3 h3 n3 E3 T3
      clear T3
      replace CX:=(n3.cell (block_lt_of_cell CX)).trans CX
      replace CY:=(n3.cell (block_lt_of_cell CY)).trans CY
      replace RX:=RX.up n3
      replace RY:=RY.up n3
      replace N:=nxt N n3
      have OX:=hide (of_ok RX bx LX.out)
      have OY:=hide (of_ok RY by' LY.out)
      clear n3
      simp only [puts,v3,Act.put,List.setIfInBounds_toArray,List.set_cons_succ,List.set_cons_zero]
      clear v3
      go_upto_region 4 with fail
      refine region_new16 4 3 2 4 22 _ (fun i=>[Fact.eq (.pointer (some ⟨w.heap.size,1,none⟩)),Fact.eq (.slice a' ys.length c'),EL (num ys),NB W3 16].getD i Fact.no) (num ys) (by kernel_rfl) rfl rfl rfl (by kernel_rfl) (by kernel_rfl) rfl rfl ?_ ?_
      · intro i hi
        obtain rfl | rfl | rfl | rfl:i=0∨i=1∨i=2∨i=3:=by omega
        · exact step_fld rfl 29 1 1 rfl (by kernel_rfl) _ _ rfl (fyP _) rfl
        · exact step_lds rfl 20 0 rfl (by kernel_rfl) _ _ rfl _ _ _ CY rfl
        · exact step_of rfl 21 1 rfl (by kernel_rfl) OY.out rfl rfl
        · exact step_new16 rfl rfl rfl
      intro vs4 q4 W4 v4 h4 n4 E4 T4
      clear T4
      replace E3:=E3.up n4
      replace CX:=(n4.cell (block_lt_of_cell CX)).trans CX
      replace CY:=(n4.cell (block_lt_of_cell CY)).trans CY
      replace RX:=RX.up n4
      replace RY:=RY.up n4
      replace N:=nxt N n4
      have OX:=hide (of_ok RX bx LX.out)
      have OY:=hide (of_ok RY by' LY.out)
      clear n4
      simp only [puts,v4,Act.put,List.setIfInBounds_toArray,List.set_cons_succ,List.set_cons_zero]
      clear v4
      go_upto_region 5 with fail
      refine region_new16 4 3 2 5 25 _ (fun i=>[EL (num xs),EL (num xs),EL ((num xs)*(num xs)),NB W4 16].getD i Fact.no) ((num xs)*(num xs)) (by kernel_rfl) rfl rfl rfl (by kernel_rfl) (by kernel_rfl) rfl rfl ?_ ?_
      · intro i hi
        obtain rfl | rfl | rfl | rfl:i=0∨i=1∨i=2∨i=3:=by omega
        · exact step_el rfl 36 3 rfl Go.Proofs.YtnpolopcgmjmnaaGreatDoor.u50 i50 (by kernel_rfl) _ _ rfl _ E3 rfl
        · exact step_el rfl 36 3 rfl Go.Proofs.YtnpolopcgmjmnaaGreatDoor.u50 i50 (by kernel_rfl) _ _ rfl _ E3 rfl
        · exact step_mul rfl 23 24 0 1 _ _ rfl (by kernel_rfl) (by kernel_rfl) rfl rfl rfl
        · exact step_new16 rfl rfl rfl
      intro vs5 q5 W5 v5 h5 n5 E5 T5
      clear T5
      replace E3:=E3.up n5
      replace E4:=E4.up n5
      replace CX:=(n5.cell (block_lt_of_cell CX)).trans CX
      replace CY:=(n5.cell (block_lt_of_cell CY)).trans CY
      replace RX:=RX.up n5
      replace RY:=RY.up n5
      replace N:=nxt N n5
      have OX:=hide (of_ok RX bx LX.out)
      have OY:=hide (of_ok RY by' LY.out)
      clear n5
      simp only [puts,v5,Act.put,List.setIfInBounds_toArray,List.set_cons_succ,List.set_cons_zero]
      clear v5
      go_upto_region 6 with fail
      refine region_new16 4 3 2 6 28 _ (fun i=>[EL (num ys),EL (num ys),EL ((num ys)*(num ys)),NB W5 16].getD i Fact.no) ((num ys)*(num ys)) (by kernel_rfl) rfl rfl rfl (by kernel_rfl) (by kernel_rfl) rfl rfl ?_ ?_
      · intro i hi
        obtain rfl | rfl | rfl | rfl:i=0∨i=1∨i=2∨i=3:=by omega
        · exact step_el rfl 36 4 rfl Go.Proofs.YtnpolopcgmjmnaaGreatDoor.u50 i50 (by kernel_rfl) _ _ rfl _ E4 rfl
        · exact step_el rfl 36 4 rfl Go.Proofs.YtnpolopcgmjmnaaGreatDoor.u50 i50 (by kernel_rfl) _ _ rfl _ E4 rfl
        · exact step_mul rfl 26 27 0 1 _ _ rfl (by kernel_rfl) (by kernel_rfl) rfl rfl rfl
        · exact step_new16 rfl rfl rfl
      intro vs6 q6 W6 v6 h6 n6 E6 T6
      clear T6
      replace E3:=E3.up n6
      replace E4:=E4.up n6
      replace E5:=E5.up n6
      replace CX:=(n6.cell (block_lt_of_cell CX)).trans CX
      replace CY:=(n6.cell (block_lt_of_cell CY)).trans CY
      replace RX:=RX.up n6
      replace RY:=RY.up n6
      replace N:=nxt N n6
      have OX:=hide (of_ok RX bx LX.out)
      have OY:=hide (of_ok RY by' LY.out)
      clear n6
      simp only [puts,v6,Act.put,List.setIfInBounds_toArray,List.set_cons_succ,List.set_cons_zero]
      clear v6
      go_upto_region 7 with fail
      refine region_end 12 (fun i=>[EL ((num ys)*(num ys)),EL ((num xs)*(num xs)),EL (((num ys)*(num ys)) - ((num xs)*(num xs))),EL 1,EL dE,EL ((num xs)*(num xs)),EL ((num ys)*(num ys)),EL (((num xs)*(num xs))*((num ys)*(num ys))),EL ((dE)*(((num xs)*(num xs))*((num ys)*(num ys)))),EL ((1)+((dE)*(((num xs)*(num xs))*((num ys)*(num ys))))),Fact.eq (.bool (decide ((((num ys)*(num ys)) - ((num xs)*(num xs))) % PP=((1)+((dE)*(((num xs)*(num xs))*((num ys)*(num ys))))) % PP))),Fact.eq (.bool (decide ((((num ys)*(num ys)) - ((num xs)*(num xs))) % PP=((1)+((dE)*(((num xs)*(num xs))*((num ys)*(num ys))))) % PP)))].getD i Fact.no) (by kernel_rfl) (by kernel_rfl) rfl ?_ ?_
      · intro i hi
        obtain rfl | rfl | rfl | rfl | rfl | rfl | rfl | rfl | rfl | rfl | rfl | rfl:i=0∨i=1∨i=2∨i=3∨i=4∨i=5∨i=6∨i=7∨i=8∨i=9∨i=10∨i=11:=by omega
        · exact step_el rfl 36 6 rfl Go.Proofs.YtnpolopcgmjmnaaGreatDoor.u50 i50 (by kernel_rfl) _ _ rfl _ E6 rfl
        · exact step_el rfl 36 5 rfl Go.Proofs.YtnpolopcgmjmnaaGreatDoor.u50 i50 (by kernel_rfl) _ _ rfl _ E5 rfl
        · exact step_sub rfl 29 30 0 1 _ _ rfl (by kernel_rfl) (by kernel_rfl) rfl rfl rfl
        · exact step_small rfl 1 (by omega) rfl rfl
        · exact step_d rfl rfl rfl
        · exact step_el rfl 36 5 rfl Go.Proofs.YtnpolopcgmjmnaaGreatDoor.u50 i50 (by kernel_rfl) _ _ rfl _ E5 rfl
        · exact step_el rfl 36 6 rfl Go.Proofs.YtnpolopcgmjmnaaGreatDoor.u50 i50 (by kernel_rfl) _ _ rfl _ E6 rfl
        · exact step_mul rfl 34 35 5 6 _ _ rfl (by kernel_rfl) (by kernel_rfl) rfl rfl rfl
        · exact step_mul rfl 33 36 4 7 _ _ rfl (by kernel_rfl) (by kernel_rfl) rfl rfl rfl
        · exact step_add rfl 32 37 3 8 _ _ rfl (by kernel_rfl) (by kernel_rfl) rfl rfl rfl
        · exact step_same rfl 31 38 2 9 _ _ rfl (by kernel_rfl) (by kernel_rfl) rfl rfl rfl
        · exact step_move rfl 39 10 (by exact Or.inr rfl) (by kernel_rfl) rfl
      intro A W hb hw hF
      have e2:=hF 11 2 (by kernel_rfl)
      obtain ⟨vs,hvs⟩:∃ vs:Nat→Value,∀ d,A.tmps.getD d undef=vs d:=⟨_,fun _=>rfl⟩
      rw [hvs] at e2
      rw [puts_of (md := .any) (k:=12) (by kernel_rfl) rfl hb vs hvs]
      have N9:=nxt N hw
      clear hb hF hvs hw
      change vs 2=_ at e2
      simp only [puts,e2,Act.put,List.setIfInBounds_toArray,List.set_cons_succ,List.set_cons_zero]
      go_wp2
      go_ret
      exact ⟨by rw [VP.out];rfl,N9⟩
end Go.Proofs.YtnpolopcgmjmnaaGreatDoor
namespace Go.Proofs.YtnpolopcgmjmnaaGreatDoor
set_option maxRecDepth 100000
open Go Go.RowKit
end Go.Proofs.YtnpolopcgmjmnaaGreatDoor
namespace Go.Proofs.YtnpolopcgmjmnaaGreatDoor
set_option maxRecDepth 100000
open Go Go.RowKit
abbrev W3:Type:=Int × Int × Int
def wsum (p q:W3) (d:Int):W3:=(wX p.1 p.2.1 p.2.2 q.1 q.2.1 q.2.2 d,wY p.1 p.2.1 p.2.2 q.1 q.2.1 q.2.2 d,wZ p.1 p.2.1 p.2.2 q.1 q.2.1 q.2.2 d)
def stp (d:Int) (p:W3):Nat→W3
 | 0=>p
 | i+1=>wsum (stp d p i) (stp d p i) d
def acc (d:Int) (p:W3) (b:Nat→Int):Nat→W3
 | 0=>(0,1,1)
 | i+1=>if b i=1 then wsum (acc d p b i) (stp d p i) d else acc d p b i
def bitOf (top:List Int) (i:Nat):Int:=dig top (i / 8) / 2 ^ (i % 8) % 2
theorem Own.butQ {W W':World} {g q:Nat} {a:Option Addr} {k:IntKind} {xs:List Int} (h:Own W g a k xs) (b:ButQ q W W') (hne:0 < xs.length→g≠q):Own W' g a k xs:=fun h0=>h.of_block (b.1 g (hne h0) (h.rd.lt h0)) h0
theorem en_sum:enters Tryz.prog 22=true:=by kernel_rfl
theorem of_up {W W':World} {a:Option Addr} {xs:List Int} (h:OfOk W a xs) (n:Below W.heap.size W W'):OfOk W' a xs:=by
 obtain ⟨g,r,b,l⟩:=h
 exact ⟨g,r.up n,b,l⟩
theorem Elt.lt {W:World} {q o:Nat} {A:Int} (h:Elt W q o A):q < W.heap.size:=by
 obtain ⟨_,_,l,_⟩:=h
 exact l
section
variable {ops : Array Oper} {Q : Exit → Act → World → Prop} {md : Region.Mode} {F : Nat → Fact} {a0 : Act} {w0 : World} {i : Nat} {o : Oper} {ts : Array TypeId}
theorem step_e3 (hi:ops[i]?=some o) (p:Nat) (hop:o.op = .load 38 (.tmp p)) (hp:apart ops p=true) (q:Nat) (h0:a0.tmps.getD p undef = .pointer (some ⟨q,0,none⟩)) {A B C:Int} (hE:Elt3 w0 q A B C) (hF:F i=E3 A B C):StepOk Tryz.prog md ops Q F a0 w0 i:=by
 obtain ⟨fs,hfs⟩:=u144
 refine step_load hi _ _ hop _ 48 hfs rfl i144 fun a w hb hw _=>?_
 obtain ⟨x,y,z,r,_,hx,hy,hz⟩:=hE.up hw
 exact ⟨q,0,_,(based_at hb p hp).trans h0,r,c48_len x y z,by rw [hF];exact ⟨x,y,z,rfl,hx,hy,hz⟩⟩
theorem step_sum (hi:ops[i]?=some o) (p q r j k l:Nat) (A B C A' B' C' D:Int) (hop:o.op = .call { callee := .value (.func 22),args := #[.tmp p,.tmp q,.tmp r],argTypes:=ts })
  (hj:waits md ops i j p=true) (hk:waits md ops i k q=true) (hl:waits md ops i l r=true) (hFj:F j=E3 A B C) (hFk:F k=E3 A' B' C') (hFl:F l=EL D)
  (hFi:F i=E3 (wX A B C A' B' C' D) (wY A B C A' B' C' D) (wZ A B C A' B' C' D)):StepOk Tryz.prog md ops Q F a0 w0 i:=by
 refine step_call hi _ _ ts hop en_sum fun a w _ _ hF=>?_
 have ea:=hF j p hj
 have eb:=hF k q hk
 have ec:=hF l r hl
 rw [hFj] at ea
 rw [hFk] at eb
 rw [hFl] at ec
 obtain ⟨x,y,z,e1,hx,hy,hz⟩:=ea
 obtain ⟨x',y',z',e2,hx',hy',hz'⟩:=eb
 obtain ⟨e,e3,he⟩:=ec
 show Calls Tryz.prog 22 #[a.tmps.getD p undef,a.tmps.getD q undef,a.tmps.getD r undef] w _
 rw [e1,e2,e3]
 refine (l5Sum_any w x y z x' y' z' e A B C A' B' C' D hx hy hz hx' hy' hz' he).mono ?_
 rintro r w' ⟨u,v,t,rfl,hu,hv,ht,hn⟩
 exact ⟨_,rfl,hn,by rw [hFi];exact ⟨u,v,t,rfl,hu,hv,ht⟩⟩
end
set_option maxHeartbeats 4000000 in
theorem l5Times_any (w : World) (g gx gy : Nat) (a ax ay : Option Addr) (ck cx cy : Nat) (ks xs ys : List Int) (hk : Rd w g a .u8 ks) (bk : Byt ks) (lk : ks.length ≤ 4096) (hx : Rd w gx ax .u8 xs) (hy : Rd w gy ay .u8 ys) (bx : Byt xs) (by' : Byt ys) (lx : xs.length = 32) (ly : ys.length = 32) :
  Calls Tryz.prog 13 #[.slice a ks.length ck,.agg #[.slice ax xs.length cx,.slice ay ys.length cy]] w fun r w'=>∃ (top:List Int) (p:W3) (x y z:Nat→Int),Canon top (lsum (fun j=>ks.getD j 0) ks.length)∧p=acc dE (num xs,num ys,1) (bitOf top) (8*top.length)∧r = .returned (ag48 x y z) ∧
   (L16 x∧s16 x 16 % PP=p.1 % PP)∧(L16 y∧s16 y 16 % PP=p.2.1 % PP)∧(L16 z∧s16 z 16 % PP=p.2.2 % PP)∧Below w.heap.size w w':=by
 have T:=two_cells w (.slice ax xs.length cx) (.slice ay ys.length cy) 29
 have m1:Below w.heap.size w (w.alloc (.cells #[.slice ax xs.length cx,.slice ay ys.length cy] 29)):=(Below.refl _ _).alloc (Nat.le_refl _) _
 have s1:(w.alloc (.cells #[.slice ax xs.length cx,.slice ay ys.length cy] 29)).heap.size=w.heap.size+1:=by simp
 obtain ⟨CX,CY⟩:=T
 have LX:=hide lx
 have LY:=hide ly
 clear lx ly
 go_enter Tryz.func13,Tryz.ntmps13
 go_upto_region 1 with fail
 generalize w.alloc (.cells #[.slice ax xs.length cx,.slice ay ys.length cy] 29)=wa at *
 have TR:(wa.alloc zObj48).there wa.heap.size 0 48:=there_new wa _ _
 have m2:Below wa.heap.size wa (wa.alloc zObj48):=(Below.refl _ _).alloc (Nat.le_refl _) _
 rw [s1] at TR
 replace CX:=(m2.cell (block_lt_of_cell CX)).trans CX
 replace CY:=(m2.cell (block_lt_of_cell CY)).trans CY
 have N:=nxt m1 m2
 obtain ⟨wr,hwr⟩:∃ W,W=wa.alloc zObj48:=⟨_,rfl⟩
 rw [← hwr] at TR N CX CY
 change Code.wp _ _ _ _ (wa.alloc zObj48)
 rw [← hwr]
 clear hwr m1 m2 s1
 have RK:=hk.up N
 have OX:=hide (of_ok (hx.up N) bx LX.out)
 have OY:=hide (of_ok (hy.up N) by' LY.out)
 clear hk hx hy
 refine region_new16 2 1 0 5 10 _ (fun i=>[EL dE,NB wr 16].getD i Fact.no) (dE) (by kernel_rfl) rfl rfl rfl (by kernel_rfl) (by kernel_rfl) rfl rfl ?_ ?_
 ·intro i hi
  obtain rfl | rfl:i=0∨i=1:=by omega
  ·exact step_d rfl rfl rfl
  ·exact step_new16 rfl rfl rfl
 intro vs1 q5 W1 v5 h5 n1 E5 T5
 have z5:w.heap.size+1 < wr.heap.size:=there_lt (by omega) TR
 replace CX:=(n1.cell (block_lt_of_cell CX)).trans CX
 replace CY:=(n1.cell (block_lt_of_cell CY)).trans CY
 replace TR:=there_up (by omega) TR n1
 replace RK:=RK.up n1
 replace OX:=hide (of_up OX.out n1)
 replace OY:=hide (of_up OY.out n1)
 replace N:=nxt N n1
 have y5:=E5.lt
 clear n1 T5
 simp only [puts,v5,Act.put,List.setIfInBounds_toArray,List.set_cons_succ,List.set_cons_zero]
 clear v5
 go_upto_region 2 with fail
 refine region_new48 5 4 3 6 14 _ (fun i=>[EL 0,EL 1,EL 1,E3 (0) (1) (1),NB W1 48].getD i Fact.no) (0) (1) (1) (by kernel_rfl) rfl rfl rfl (by kernel_rfl) (by kernel_rfl) rfl rfl ?_ ?_
 ·intro i hi
  obtain rfl | rfl | rfl | rfl | rfl:i=0∨i=1∨i=2∨i=3∨i=4:=by omega
  ·exact step_small rfl 0 (by omega) rfl rfl
  ·exact step_small rfl 1 (by omega) rfl rfl
  ·exact step_small rfl 1 (by omega) rfl rfl
  ·exact step_b48 rfl 11 12 13 0 1 2 _ _ _ rfl (by kernel_rfl) (by kernel_rfl) (by kernel_rfl) rfl rfl rfl rfl
  ·exact step_new48 rfl rfl rfl
 intro vs2 q6 W2 v6 h6 n2 E6 T6
 replace CX:=(n2.cell (block_lt_of_cell CX)).trans CX
 replace CY:=(n2.cell (block_lt_of_cell CY)).trans CY
 replace TR:=there_up (by omega) TR n2
 replace RK:=RK.up n2
 replace OX:=hide (of_up OX.out n2)
 replace OY:=hide (of_up OY.out n2)
 replace E5:=E5.up n2
 replace N:=nxt N n2
 have y6:=there_lt (by omega) T6
 clear n2
 simp only [puts,v6,Act.put,List.setIfInBounds_toArray,List.set_cons_succ,List.set_cons_zero]
 clear v6
 go_upto_region 3 with fail
 refine region_new48 9 8 7 7 22 _ (fun i=>[Fact.eq (.pointer (some ⟨w.heap.size,0,none⟩)),Fact.eq (.slice ax xs.length cx),EL (num xs),Fact.eq (.pointer (some ⟨w.heap.size,1,none⟩)),Fact.eq (.slice ay ys.length cy),EL (num ys),EL 1,E3 (num xs) (num ys) (1),NB W2 48].getD i Fact.no) (num xs) (num ys) (1) (by kernel_rfl) rfl rfl rfl (by kernel_rfl) (by kernel_rfl) rfl rfl ?_ ?_
 ·intro i hi
  obtain rfl | rfl | rfl | rfl | rfl | rfl | rfl | rfl | rfl:i=0∨i=1∨i=2∨i=3∨i=4∨i=5∨i=6∨i=7∨i=8:=by omega
  ·exact step_fld rfl 29 3 0 rfl (by kernel_rfl) _ _ rfl (fxP _) rfl
  ·exact step_lds rfl 15 0 rfl (by kernel_rfl) _ _ rfl _ _ _ CX rfl
  ·exact step_of rfl 16 1 rfl (by kernel_rfl) OX.out rfl rfl
  ·exact step_fld rfl 29 3 1 rfl (by kernel_rfl) _ _ rfl (fyP _) rfl
  ·exact step_lds rfl 18 3 rfl (by kernel_rfl) _ _ rfl _ _ _ CY rfl
  ·exact step_of rfl 19 4 rfl (by kernel_rfl) OY.out rfl rfl
  ·exact step_small rfl 1 (by omega) rfl rfl
  ·exact step_b48 rfl 17 20 21 2 5 6 _ _ _ rfl (by kernel_rfl) (by kernel_rfl) (by kernel_rfl) rfl rfl rfl rfl
  ·exact step_new48 rfl rfl rfl
 intro vs3 q7 Wv v7 h7 n3 E7 T7
 replace TR:=there_up (by omega) TR n3
 replace RK:=RK.up n3
 replace E5:=E5.up n3
 replace E6:=E6.up n3
 replace T6:=there_up (by omega) T6 n3
 replace N:=nxt N n3
 have y7:=there_lt (by omega) T7
 clear n3 CX CY OX OY LX LY
 simp only [puts,v7,Act.put,List.setIfInBounds_toArray,List.set_cons_succ,List.set_cons_zero]
 clear v7
 go_wp2_with fail
 refine (l2Num_any Wv g a ck ks RK bk (by omega)).mono ?_
 rintro r W4 ⟨top,CT,lt',⟨aT,cT,gT,rfl,oT,pT,qT,hT⟩,n4⟩
 replace TR:=there_up (by omega) TR n4
 replace E5:=E5.up n4
 replace E6:=E6.up n4
 replace E7:=E7.up n4
 replace T6:=there_up (by omega) T6 n4
 replace T7:=there_up (by omega) T7 n4
 replace N:=nxt N n4
 clear n4 RK
 go_wp2
 have HC:=hide CT
 have TB:Byt top:=CT.1
 clear CT
 have g6:q5 < q6:=by omega
 have g7:q6 < q7:=by omega
 have gg:q7 < gT:=by omega
 have gr:w.heap.size+1 < q5:=by omega
 have tl:top.length≤4096:=by omega
 clear h5 z5 y5 h6 y6 h7 y7 hT
 obtain ⟨p,hp⟩:∃ p:W3,p=(num xs,num ys,1):=⟨_,rfl⟩
 have E6':Elt3 W4 q6 (acc dE p (bitOf top) 0).1 (acc dE p (bitOf top) 0).2.1 (acc dE p (bitOf top) 0).2.2:=E6
 have E7':Elt3 W4 q7 (stp dE p 0).1 (stp dE p 0).2.1 (stp dE p 0).2.2:=by rw [hp];exact E7
 clear E6 E7
 go_loopw [9] (fun i wr=>∃ k:Nat,k≤8*top.length∧i = .int .i64 k∧Elt3 wr q6 (acc dE p (bitOf top) k).1 (acc dE p (bitOf top) k).2.1 (acc dE p (bitOf top) k).2.2∧wr.there q6 0 48∧Elt3 wr q7 (stp dE p k).1 (stp dE p k).2.1 (stp dE p k).2.2∧wr.there q7 0 48∧Elt wr q5 0 dE∧Own wr gT aT .u8 top∧wr.there (w.heap.size+1) 0 48∧Below w.heap.size w wr) (fun i _=>8*top.length - (intOf i).toNat)
 case atStart=>exact ⟨0,Nat.zero_le _,rfl,E6',T6,E7',T7,E5,oT,TR,N⟩
 case round =>
  clear E6' E7' T6 T7 E5 oT TR N
  obtain ⟨k,hk,rfl,E6,T6,E7,T7,E5,oT,TR,N⟩:=hrel
  by_cases hlt:k < 8*top.length
  ·have k5 : (k : Int) < (top.length : Int) * 8 := by omega
   obtain ⟨j,hj⟩:∃ j:Nat,k / 8=j:=⟨_,rfl⟩
   obtain ⟨m,hm⟩:∃ m:Nat,k % 8=m:=⟨_,rfl⟩
   have p1:(k:Int) / 8=(j:Int):=by omega
   have p3:(k:Int) % 8=(m:Int):=by omega
   have p4:m≤7:=by omega
   have DG:=l1Digit_any wr gT aT cT top (j:Int) oT.rd TB (by omega) (by omega) (by omega)
   rw [Int.toNat_natCast] at DG
   have BT:Hid (bitOf top k=dig top j / 2 ^ m % 2):=by show _=_;unfold bitOf;rw [hj,hm]
   have xb:=dig_byt TB j
   have pm:=p2pos m
   have v0:0≤dig top j / 2 ^ m:=Int.ediv_nonneg xb.1 (by omega)
   have v1:dig top j / 2 ^ m < 256:=Int.lt_of_le_of_lt (Int.ediv_le_self _ xb.1) (by omega)
   have e1:=and1 _ v0 v1
   generalize dig top j=x at *
   clear hj hm
   have AC:=hide (show acc dE p (bitOf top) (k+1)=if bitOf top k=1 then wsum (acc dE p (bitOf top) k) (stp dE p k) dE else acc dE p (bitOf top) k from rfl)
   have ST:=hide (show stp dE p (k+1)=wsum (stp dE p k) (stp dE p k) dE from rfl)
   obtain ⟨ac,hac⟩:∃ c,c=acc dE p (bitOf top) k:=⟨_,rfl⟩
   obtain ⟨st,hst⟩:∃ c,c=stp dE p k:=⟨_,rfl⟩
   rw [← hac] at E6 AC
   rw [← hst] at E7 ST AC
   clear hac hst
   by_cases hbit:x / 2 ^ m % 2=1
   ·have tb1 : (x / 2 ^ m % 2 == 1) = true := by simp [hbit]
    have AC':=hide (AC.out.trans (if_pos (BT.out.trans hbit)))
    clear AC BT hbit
    go_upto_region 9 with (go_at_call 35;refine DG.mono ?_;rintro r w' ⟨rfl,rfl⟩)
    clear DG
    refine region_put48 4 3 6 45 _ (fun i=>[E3 (ac.1) (ac.2.1) (ac.2.2),E3 (st.1) (st.2.1) (st.2.2),EL (dE),E3 (wX (ac.1) (ac.2.1) (ac.2.2) (st.1) (st.2.1) (st.2.2) (dE)) (wY (ac.1) (ac.2.1) (ac.2.2) (st.1) (st.2.1) (st.2.2) (dE)) (wZ (ac.1) (ac.2.1) (ac.2.2) (st.1) (st.2.1) (st.2.2) (dE))].getD i Fact.no) (wX (ac.1) (ac.2.1) (ac.2.2) (st.1) (st.2.1) (st.2.2) (dE)) (wY (ac.1) (ac.2.1) (ac.2.2) (st.1) (st.2.1) (st.2.2) (dE)) (wZ (ac.1) (ac.2.1) (ac.2.2) (st.1) (st.2.1) (st.2.2) (dE)) _ (by kernel_rfl) rfl rfl rfl (by kernel_rfl) rfl T6 (by kernel_rfl) rfl ?_ ?_
    ·intro i hi
     obtain rfl | rfl | rfl | rfl:i=0∨i=1∨i=2∨i=3:=by omega
     ·exact step_e3 rfl 6 rfl (by kernel_rfl) _ rfl E6 rfl
     ·exact step_e3 rfl 7 rfl (by kernel_rfl) _ rfl E7 rfl
     ·exact step_el rfl 36 5 rfl Go.Proofs.YtnpolopcgmjmnaaGreatDoor.u50 i50 (by kernel_rfl) _ _ rfl _ E5 rfl
     ·exact step_sum rfl 42 43 44 0 1 2 _ _ _ _ _ _ _ rfl (by kernel_rfl) (by kernel_rfl) (by kernel_rfl) rfl rfl rfl rfl
    intro vs9 Wa w9 na bq E6n T6n nb
    replace N:=nb w w.heap.size (nxt N na) (by omega)
    replace E7:=E7.but bq (by omega)
    replace T7:=there_but (by omega) T7 bq (by omega)
    replace E5:=E5.but bq (by omega)
    replace oT:=oT.butQ bq (fun _=>by omega)
    replace TR:=there_but (by omega) TR bq (by omega)
    clear na bq nb E6 T6
    simp only [puts,Act.put,List.setIfInBounds_toArray,List.set_cons_succ,List.set_cons_zero]
    go_upto_region 10 with fail
    refine region_put48 4 3 7 49 _ (fun i=>[E3 (st.1) (st.2.1) (st.2.2),E3 (st.1) (st.2.1) (st.2.2),EL (dE),E3 (wX (st.1) (st.2.1) (st.2.2) (st.1) (st.2.1) (st.2.2) (dE)) (wY (st.1) (st.2.1) (st.2.2) (st.1) (st.2.1) (st.2.2) (dE)) (wZ (st.1) (st.2.1) (st.2.2) (st.1) (st.2.1) (st.2.2) (dE))].getD i Fact.no) (wX (st.1) (st.2.1) (st.2.2) (st.1) (st.2.1) (st.2.2) (dE)) (wY (st.1) (st.2.1) (st.2.2) (st.1) (st.2.1) (st.2.2) (dE)) (wZ (st.1) (st.2.1) (st.2.2) (st.1) (st.2.1) (st.2.2) (dE)) _ (by kernel_rfl) rfl rfl rfl (by kernel_rfl) rfl T7 (by kernel_rfl) rfl ?_ ?_
    ·intro i hi
     obtain rfl | rfl | rfl | rfl:i=0∨i=1∨i=2∨i=3:=by omega
     ·exact step_e3 rfl 7 rfl (by kernel_rfl) _ rfl E7 rfl
     ·exact step_e3 rfl 7 rfl (by kernel_rfl) _ rfl E7 rfl
     ·exact step_el rfl 36 5 rfl Go.Proofs.YtnpolopcgmjmnaaGreatDoor.u50 i50 (by kernel_rfl) _ _ rfl _ E5 rfl
     ·exact step_sum rfl 46 47 48 0 1 2 _ _ _ _ _ _ _ rfl (by kernel_rfl) (by kernel_rfl) (by kernel_rfl) rfl rfl rfl rfl
    intro vs10 Wb w10 na bq E7n T7n nb
    replace N:=nb w w.heap.size (nxt N na) (by omega)
    replace E6n:=E6n.but bq (by omega)
    replace T6n:=there_but (by omega) T6n bq (by omega)
    replace E5:=E5.but bq (by omega)
    replace oT:=oT.butQ bq (fun _=>by omega)
    replace TR:=there_but (by omega) TR bq (by omega)
    clear na bq nb E7 T7
    simp only [puts,Act.put,List.setIfInBounds_toArray,List.set_cons_succ,List.set_cons_zero]
    go_wp2
    go_roundw
    case rel=>exact ⟨k+1,by omega,by go_num,by rw [AC'.out];exact E6n,T6n,by rw [ST.out];exact E7n,T7n,E5,oT,TR,N⟩
    case measure=>simp [intOf];omega
   ·have tb1 : (x / 2 ^ m % 2 == 1) = false := by simp [hbit]
    have AC':=hide (AC.out.trans (if_neg (fun h=>hbit (BT.out.symm.trans h))))
    clear AC BT hbit
    go_upto_region 10 with (go_at_call 35;refine DG.mono ?_;rintro r w' ⟨rfl,rfl⟩)
    clear DG
    refine region_put48 4 3 7 49 _ (fun i=>[E3 (st.1) (st.2.1) (st.2.2),E3 (st.1) (st.2.1) (st.2.2),EL (dE),E3 (wX (st.1) (st.2.1) (st.2.2) (st.1) (st.2.1) (st.2.2) (dE)) (wY (st.1) (st.2.1) (st.2.2) (st.1) (st.2.1) (st.2.2) (dE)) (wZ (st.1) (st.2.1) (st.2.2) (st.1) (st.2.1) (st.2.2) (dE))].getD i Fact.no) (wX (st.1) (st.2.1) (st.2.2) (st.1) (st.2.1) (st.2.2) (dE)) (wY (st.1) (st.2.1) (st.2.2) (st.1) (st.2.1) (st.2.2) (dE)) (wZ (st.1) (st.2.1) (st.2.2) (st.1) (st.2.1) (st.2.2) (dE)) _ (by kernel_rfl) rfl rfl rfl (by kernel_rfl) rfl T7 (by kernel_rfl) rfl ?_ ?_
    ·intro i hi
     obtain rfl | rfl | rfl | rfl:i=0∨i=1∨i=2∨i=3:=by omega
     ·exact step_e3 rfl 7 rfl (by kernel_rfl) _ rfl E7 rfl
     ·exact step_e3 rfl 7 rfl (by kernel_rfl) _ rfl E7 rfl
     ·exact step_el rfl 36 5 rfl Go.Proofs.YtnpolopcgmjmnaaGreatDoor.u50 i50 (by kernel_rfl) _ _ rfl _ E5 rfl
     ·exact step_sum rfl 46 47 48 0 1 2 _ _ _ _ _ _ _ rfl (by kernel_rfl) (by kernel_rfl) (by kernel_rfl) rfl rfl rfl rfl
    intro vs10 Wb w10 na bq E7n T7n nb
    replace N:=nb w w.heap.size (nxt N na) (by omega)
    replace E6:=E6.but bq (by omega)
    replace T6:=there_but (by omega) T6 bq (by omega)
    replace E5:=E5.but bq (by omega)
    replace oT:=oT.butQ bq (fun _=>by omega)
    replace TR:=there_but (by omega) TR bq (by omega)
    clear na bq nb E7 T7
    simp only [puts,Act.put,List.setIfInBounds_toArray,List.set_cons_succ,List.set_cons_zero]
    go_wp2
    go_roundw
    case rel=>exact ⟨k+1,by omega,by go_num,by rw [AC'.out];exact E6,T6,by rw [ST.out];exact E7n,T7n,E5,oT,TR,N⟩
    case measure=>simp [intOf];omega
  ·obtain rfl : k = 8 * top.length := by omega
   have k5:decide (((8*top.length:Nat):Int) < (top.length:Int)*8)=false:=by simp;omega
   obtain ⟨ac,hac⟩:∃ c,c=acc dE p (bitOf top) (8*top.length):=⟨_,rfl⟩
   rw [← hac] at E6
   have HAC:=hide hac
   clear hac
   go_upto_region 11 with fail
   refine region_put48 1 0 4 50 _ (fun i=>[E3 (ac.1) (ac.2.1) (ac.2.2)].getD i Fact.no) (ac.1) (ac.2.1) (ac.2.2) _ (by kernel_rfl) rfl rfl rfl (by kernel_rfl) rfl TR (by kernel_rfl) rfl ?_ ?_
   ·intro i hi
    obtain rfl:i=0:=by omega
    exact step_e3 rfl 6 rfl (by kernel_rfl) _ rfl E6 rfl
   intro vs11 Wb w11 na bq E4n T4n nb
   have NS:=nb w w.heap.size (nxt N na) (by omega)
   clear na bq nb E6 E7 T6 T7 E5 oT TR N T4n
   simp only [puts,Act.put,List.setIfInBounds_toArray,List.set_cons_succ,List.set_cons_zero]
   obtain ⟨x,y,z,rg,_,hx,hy,hz⟩:=E4n
   have lz:(c48 x y z).length=48:=c48_len x y z
   go_wp2
   obtain ⟨fs,hfs⟩:=u144
   exact bodyPost_ret (v:=ag48 x y z) (results_cell_mid Tryz.results13 _ _ (w.heap.size+1) (c48 x y z) _ rfl rg hfs rfl (by rw [lz];exact i144)) rfl ⟨top,ac,x,y,z,HC.out,by rw [HAC.out,hp],rfl,hx,hy,hz,NS⟩
end Go.Proofs.YtnpolopcgmjmnaaGreatDoor
namespace Go.Proofs.YtnpolopcgmjmnaaGreatDoor
set_option maxRecDepth 100000
structure Pj (t:W3) (q:Int × Int):Prop where
 z:¬ PP ∣ t.2.2
 x:PP ∣ t.1 - q.1*t.2.2
 y:PP ∣ t.2.1 - q.2*t.2.2
theorem Pj.cg {t:W3} {q q':Int × Int} (h:Pj t q) (e:Pe PP q q'):Pj t q' :=
 ⟨h.z,dv2 h.x e.1 (c1:=1) (c2:=t.2.2) (by grind),dv2 h.y e.2 (c1:=1) (c2:=t.2.2) (by grind)⟩
theorem Pj.one (q:Int × Int):Pj (q.1,q.2,1) q:=⟨pri_PP.one,⟨0,by simp⟩,⟨0,by simp⟩⟩
theorem dE_is:PP ∣ dE - d0:=by
 have h:PP ∣ einv 121666*121666 - 1:=einv_ok 121666 (by decide)
 have k:PP ∣ 121666*d0+121665:=by decide +kernel
 have n:¬ PP ∣ 121666:=by decide
 have e:dE=(0 - 121665)*einv 121666:=rfl
 rw [e]
 generalize einv 121666=f at *
 exact cancel pri_PP n (dv2 h k (c1:=-121665) (c2:=-1) (by grind))
section
variable {X Y Z X' Y' Z' D A B C A' B' C' E : Int}
theorem wA_cg (hZ:Z % PP=C % PP) (hZ':Z' % PP=C' % PP):wA Z Z' % PP=wA C C' % PP:=mod_mul hZ hZ'
theorem wF_cg (hX:X % PP=A % PP) (hY:Y % PP=B % PP) (hX':X' % PP=A' % PP) (hY':Y' % PP=B' % PP) (hD:D % PP=E % PP):wF X Y X' Y' D % PP=wF A B A' B' E % PP :=
 mod_mul hD (mod_mul (mod_mul hX hX') (mod_mul hY hY'))
theorem wL_cg (hX:X % PP=A % PP) (hY:Y % PP=B % PP) (hZ:Z % PP=C % PP) (hX':X' % PP=A' % PP) (hY':Y' % PP=B' % PP) (hZ':Z' % PP=C' % PP) (hD:D % PP=E % PP):wL X Y Z X' Y' Z' D % PP=wL A B C A' B' C' E % PP :=
 mod_sub (mod_mul (wA_cg hZ hZ') (wA_cg hZ hZ')) (wF_cg hX hY hX' hY' hD)
theorem wM_cg (hX:X % PP=A % PP) (hY:Y % PP=B % PP) (hZ:Z % PP=C % PP) (hX':X' % PP=A' % PP) (hY':Y' % PP=B' % PP) (hZ':Z' % PP=C' % PP) (hD:D % PP=E % PP):wM X Y Z X' Y' Z' D % PP=wM A B C A' B' C' E % PP :=
 mod_add (mod_mul (wA_cg hZ hZ') (wA_cg hZ hZ')) (wF_cg hX hY hX' hY' hD)
theorem wX_cg (hX:X % PP=A % PP) (hY:Y % PP=B % PP) (hZ:Z % PP=C % PP) (hX':X' % PP=A' % PP) (hY':Y' % PP=B' % PP) (hZ':Z' % PP=C' % PP) (hD:D % PP=E % PP):wX X Y Z X' Y' Z' D % PP=wX A B C A' B' C' E % PP :=
 mod_mul (mod_mul (wA_cg hZ hZ') (wL_cg hX hY hZ hX' hY' hZ' hD)) (mod_sub (mod_sub (mod_mul (mod_add hX hY) (mod_add hX' hY')) (mod_mul hX hX')) (mod_mul hY hY'))
theorem wY_cg (hX:X % PP=A % PP) (hY:Y % PP=B % PP) (hZ:Z % PP=C % PP) (hX':X' % PP=A' % PP) (hY':Y' % PP=B' % PP) (hZ':Z' % PP=C' % PP) (hD:D % PP=E % PP):wY X Y Z X' Y' Z' D % PP=wY A B C A' B' C' E % PP :=
 mod_mul (mod_mul (wA_cg hZ hZ') (wM_cg hX hY hZ hX' hY' hZ' hD)) (mod_add (mod_mul hY hY') (mod_mul hX hX'))
theorem wZ_cg (hX:X % PP=A % PP) (hY:Y % PP=B % PP) (hZ:Z % PP=C % PP) (hX':X' % PP=A' % PP) (hY':Y' % PP=B' % PP) (hZ':Z' % PP=C' % PP) (hD:D % PP=E % PP):wZ X Y Z X' Y' Z' D % PP=wZ A B C A' B' C' E % PP :=
 mod_mul (wL_cg hX hY hZ hX' hY' hZ' hD) (wM_cg hX hY hZ hX' hY' hZ' hD)
end
section
variable {x y x' y' Z Z' d : Int}
theorem wX_is:wX (x*Z) (y*Z) Z (x'*Z') (y'*Z') Z' d=(Z*Z') ^ 4*(1 - d*x*x'*y*y')*(x*y'+y*x'):=by
 unfold wX wL wF wA
 grind
theorem wY_is:wY (x*Z) (y*Z) Z (x'*Z') (y'*Z') Z' d=(Z*Z') ^ 4*(1+d*x*x'*y*y')*(y*y'+x*x'):=by
 unfold wY wM wF wA
 grind
theorem wZ_is:wZ (x*Z) (y*Z) Z (x'*Z') (y'*Z') Z' d=(Z*Z') ^ 4*(1 - d*x*x'*y*y')*(1+d*x*x'*y*y'):=by
 unfold wZ wL wM wF wA
 grind
end
theorem pj_sum {t u:W3} {p q:Int × Int} {D:Int} (hD:PP ∣ D - d0) (hp:OnP PP (-1) d0 p) (hq:OnP PP (-1) d0 q) (ht:Pj t p) (hu:Pj u q):Pj (wsum t u D) (eadd (-1) d0 einv p q):=by
 obtain ⟨X,Y,Z⟩:=t
 obtain ⟨X',Y',Z'⟩:=u
 have sm:=eadd_sm crv1 hp hq
 have c1:=crv1.cpl.p hp hq
 have c2:=crv1.cpl.q hp hq
 generalize eadd (-1) d0 einv p q=r at *
 obtain ⟨x,y⟩:=p
 obtain ⟨x',y'⟩:=q
 obtain ⟨hz,hx,hy⟩:=ht
 obtain ⟨hz',hx',hy'⟩:=hu
 simp only at hz hx hy hz' hx' hy' c1 c2
 have s1:=sm.x
 have s2:=sm.y
 simp only at s1 s2
 have kX:=wX_cg (cong_dvd hx) (cong_dvd hy) (rfl:Z % PP=Z % PP) (cong_dvd hx') (cong_dvd hy') (rfl:Z' % PP=Z' % PP) (cong_dvd hD)
 have kY:=wY_cg (cong_dvd hx) (cong_dvd hy) (rfl:Z % PP=Z % PP) (cong_dvd hx') (cong_dvd hy') (rfl:Z' % PP=Z' % PP) (cong_dvd hD)
 have kZ:=wZ_cg (cong_dvd hx) (cong_dvd hy) (rfl:Z % PP=Z % PP) (cong_dvd hx') (cong_dvd hy') (rfl:Z' % PP=Z' % PP) (cong_dvd hD)
 rw [wX_is] at kX
 rw [wY_is] at kY
 rw [wZ_is] at kZ
 have jX:=dvd_cong kX
 have jY:=dvd_cong kY
 have jZ:=dvd_cong kZ
 clear kX kY kZ sm
 show Pj (wX X Y Z X' Y' Z' D,wY X Y Z X' Y' Z' D,wZ X Y Z X' Y' Z' D) r
 generalize wX X Y Z X' Y' Z' D=WX at *
 generalize wY X Y Z X' Y' Z' D=WY at *
 generalize wZ X Y Z X' Y' Z' D=WZ at *
 have nA:¬ PP ∣ (Z*Z') ^ 4:=nz_pow pri_PP (nz_mul pri_PP hz hz') 4
 clear hD hp hq
 generalize d0=d at *
 generalize (Z*Z') ^ 4=W at *
 generalize d*x*x'*y*y'=T at *
 refine ⟨fun k=>?_,?_,?_⟩
 ·have : PP ∣ W * (1 - T) * (1 + T) := dv2 k jZ (c1 := 1) (c2 := -1) (by show _ = _; grind)
  exact nz_mul pri_PP (nz_mul pri_PP nA c2) c1 this
 ·exact dv3 jX jZ s1 (c1:=1) (c2:=-r.1) (c3:=-(W*(1 - T))) (by show _=_;grind)
 ·exact dv3 jY jZ s2 (c1:=1) (c2:=-r.2) (c3:=-(W*(1+T))) (by show _=_;grind)
theorem stp_ok {p:Int × Int} (hp:OnP PP (-1) d0 p):∀ i,Pj (stp dE (p.1,p.2,1) i) (emul (-1) d0 einv (2 ^ i) p)
  | 0=>(Pj.one p).cg ((eadd_comm crv1 zero_on hp).trans (eadd_zero crv1 hp)).symm
  | i + 1 => by
    have h:=stp_ok hp i
    have on:=emul_on crv1 hp (2 ^ i)
    have e:Pe PP (eadd (-1) d0 einv (emul (-1) d0 einv (2 ^ i) p) (emul (-1) d0 einv (2 ^ i) p)) (emul (-1) d0 einv (2 ^ (i+1)) p):=by
      rw [show 2 ^ (i+1)=2 ^ i+2 ^ i by rw [Nat.pow_succ];omega]
      exact (emul_add crv1 hp (2 ^ i) (2 ^ i)).symm
    exact (pj_sum dE_is on on h h).cg e
def lowN (b:Nat→Int):Nat→Nat
 | 0=>0
 | n+1=>lowN b n+if b n=1 then 2 ^ n else 0
theorem acc_ok {p:Int × Int} (hp:OnP PP (-1) d0 p) (b:Nat→Int):∀ i,Pj (acc dE (p.1,p.2,1) b i) (emul (-1) d0 einv (lowN b i) p)
  | 0=>Pj.one (0,1)
  | i + 1 => by
    have h:=acc_ok hp b i
    have g:=stp_ok hp i
    show Pj (if b i=1 then wsum (acc dE (p.1,p.2,1) b i) (stp dE (p.1,p.2,1) i) dE else acc dE (p.1,p.2,1) b i) (emul (-1) d0 einv (lowN b i+if b i=1 then 2 ^ i else 0) p)
    by_cases c:b i=1
    · rw [if_pos c, if_pos c]
      exact (pj_sum dE_is (emul_on crv1 hp _) (emul_on crv1 hp _) h g).cg (emul_add crv1 hp _ _).symm
    · rw [if_neg c, if_neg c, Nat.add_zero]
      exact h
theorem low_bits {top:List Int} (hb:Byt top) {v:Nat} (hv:bval top=(v:Int)):∀ n,lowN (bitOf top) n=v % 2 ^ n
  | 0=>by simp [lowN,Nat.mod_one]
  | n + 1 => by
    have ih:=low_bits hb hv n
    have e:=bbit hb n
    have k:bitOf top n=((v / 2 ^ n % 2:Nat):Int):=by
      unfold bitOf
      rw [← e,hv]
      simp
    rw [lowN,ih,k,Nat.pow_succ,Nat.mod_mul]
    rcases (show v / 2 ^ n % 2=0∨v / 2 ^ n % 2=1 by omega) with z | z <;> rw [z] <;> simp
theorem low_all {top:List Int} (hb:Byt top) {v:Nat} (hv:bval top=(v:Int)):lowN (bitOf top) (8*top.length)=v:=by
 rw [low_bits hb hv]
 refine Nat.mod_eq_of_lt ?_
 have h:=bval_lt hb
 rw [hv] at h
 have e:(256:Int) ^ top.length=((2 ^ (8*top.length):Nat):Int):=by
  rw [Nat.pow_mul]
  simp
 rw [e] at h
 omega
theorem pj_plain {t:W3} {q:Int × Int} (h:Pj t q):t.1*iv t.2.2 % PP=q.1 % PP∧t.2.1*iv t.2.2 % PP=q.2 % PP:=by
 have hi:=einv_ok _ h.z
 have e:iv t.2.2=einv t.2.2:=rfl
 have hx:=h.x
 have hy:=h.y
 rw [e]
 generalize einv t.2.2=f at *
 generalize t.2.2=Z at *
 exact ⟨cong_dvd (dv2 hx hi (c1:=f) (c2:=q.1) (by grind)),cong_dvd (dv2 hy hi (c1:=f) (c2:=q.2) (by grind))⟩
theorem on_valid {x y:Int} (h:OnP PP (-1) d0 (x,y)):validN x y=true:=by
 have e:PP ∣ (-1)*x ^ 2+y ^ 2 - 1 - d0*x ^ 2*y ^ 2:=h
 have k:=dE_is
 refine decide_eq_true (cong_dvd ?_)
 generalize dE=D at *
 generalize d0=d at *
 exact dv2 e k (c1:=1) (c2:=-(x ^ 2*y ^ 2)) (by grind)
end Go.Proofs.YtnpolopcgmjmnaaGreatDoor
namespace Go.Proofs.YtnpolopcgmjmnaaGreatDoor
set_option maxRecDepth 100000
structure Ex (X Y Z T:Int) (q:Int × Int):Prop where
 z:¬ PP ∣ Z
 x:PP ∣ X - q.1*Z
 y:PP ∣ Y - q.2*Z
 t:PP ∣ T - q.1*q.2*Z
theorem Ex.cg {X Y Z T:Int} {q q':Int × Int} (h:Ex X Y Z T q) (e:Pe PP q q'):Ex X Y Z T q':=by
 obtain ⟨e1,e2⟩:=e
 obtain ⟨hz,hx,hy,ht⟩:=h
 exact ⟨hz,dv2 hx e1 (c1:=1) (c2:=Z) (by grind),dv2 hy e2 (c1:=1) (c2:=Z) (by grind),dv3 ht e1 e2 (c1:=1) (c2:=q.2*Z) (c3:=q'.1*Z) (by grind)⟩
theorem ex_ratios {a b c d:Int} {r:Int × Int} (nb:¬ PP ∣ b) (nd:¬ PP ∣ d) (h1:PP ∣ a - r.1*b) (h2:PP ∣ c - r.2*d):Ex (a*d) (c*b) (b*d) (a*c) r :=
 ⟨nz_mul pri_PP nb nd,dv2 h1 h2 (c1:=d) (c2:=0) (by grind),dv2 h1 h2 (c1:=0) (c2:=b) (by grind),dv2 h1 h2 (c1:=c) (c2:=r.1*b) (by grind)⟩
theorem Ex.pj {X Y Z T:Int} {q:Int × Int} (h:Ex X Y Z T q):Pj (X,Y,Z) q:=⟨h.z,h.x,h.y⟩
theorem ex_one (q:Int × Int):Ex q.1 q.2 1 (q.1*q.2) q:=⟨pri_PP.one,⟨0,by simp⟩,⟨0,by simp⟩,⟨0,by simp⟩⟩
def xaS (X Y X' Y':Int):Int:=(Y+X)*(Y'+X') - (Y - X)*(Y' - X')
def yaS (X Y X' Y':Int):Int:=(Y+X)*(Y'+X')+(Y - X)*(Y' - X')
def xbS (Z T Z' T' D:Int):Int:=(Z*Z'+Z*Z')+(T*T'*D+T*T'*D)
def ybS (Z T Z' T' D:Int):Int:=(Z*Z'+Z*Z') - (T*T'*D+T*T'*D)
theorem ex_sum {X Y Z T X' Y' Z' T' D:Int} {p q:Int × Int} (hD:PP ∣ D - d0) (hp:OnP PP (-1) d0 p) (hq:OnP PP (-1) d0 q) (ht:Ex X Y Z T p) (hu:Ex X' Y' Z' T' q) :
  Ex (xaS X Y X' Y'*ybS Z T Z' T' D) (yaS X Y X' Y'*xbS Z T Z' T' D) (xbS Z T Z' T' D*ybS Z T Z' T' D) (xaS X Y X' Y'*yaS X Y X' Y') (eadd (-1) d0 einv p q):=by
 have sm:=eadd_sm crv1 hp hq
 have c1:=crv1.cpl.p hp hq
 have c2:=crv1.cpl.q hp hq
 generalize eadd (-1) d0 einv p q=r at *
 obtain ⟨x,y⟩:=p
 obtain ⟨x',y'⟩:=q
 obtain ⟨hz,hx,hy,hT⟩:=ht
 obtain ⟨hz',hx',hy',hT'⟩:=hu
 simp only at hz hx hy hT hz' hx' hy' hT' c1 c2
 have s1:=sm.x
 have s2:=sm.y
 simp only at s1 s2
 clear sm hp hq
 have n2:¬ PP ∣ 2*(Z*Z'):=nz_mul pri_PP pri_PP.two (nz_mul pri_PP hz hz')
 have kT:PP ∣ T*T'*D - Z*Z'*(d0*x*x'*y*y'):=dv3 hT hT' hD (c1:=T'*D) (c2:=x*y*Z*D) (c3:=x*y*Z*(x'*y'*Z')) (by grind)
 have k1:PP ∣ X*Y' - Z*Z'*(x*y'):=dv2 hx hy' (c1:=Y') (c2:=x*Z) (by grind)
 have k2:PP ∣ Y*X' - Z*Z'*(y*x'):=dv2 hy hx' (c1:=X') (c2:=y*Z) (by grind)
 have k3:PP ∣ Y*Y' - Z*Z'*(y*y'):=dv2 hy hy' (c1:=Y') (c2:=y*Z) (by grind)
 have k4:PP ∣ X*X' - Z*Z'*(x*x'):=dv2 hx hx' (c1:=X') (c2:=x*Z) (by grind)
 clear hx hy hT hx' hy' hT' hD
 have j1:PP ∣ X*Y'+Y*X' - Z*Z'*(x*y'+y*x'):=dv2 k1 k2 (c1:=1) (c2:=1) (by grind)
 have j2:PP ∣ Y*Y'+X*X' - Z*Z'*(y*y'+x*x'):=dv2 k3 k4 (c1:=1) (c2:=1) (by grind)
 clear k1 k2 k3 k4
 have e1:xbS Z T Z' T' D=2*(Z*Z')+2*(T*T'*D):=by unfold xbS;grind
 have e2:ybS Z T Z' T' D=2*(Z*Z') - 2*(T*T'*D):=by unfold ybS;grind
 have e3:xaS X Y X' Y'=2*(X*Y'+Y*X'):=by unfold xaS;grind
 have e4:yaS X Y X' Y'=2*(Y*Y'+X*X'):=by unfold yaS;grind
 have s2':PP ∣ r.2*(1 - d0*x*x'*y*y') - (y*y'+x*x'):=dv2 s2 s2 (c1:=1) (c2:=0) (by grind)
 have s1':PP ∣ r.1*(1+d0*x*x'*y*y') - (x*y'+y*x'):=dv2 s1 s1 (c1:=1) (c2:=0) (by grind)
 clear s1 s2
 rw [e1,e2,e3,e4]
 clear e1 e2 e3 e4
 generalize T*T'*D=TT at *
 generalize d0*x*x'*y*y'=U at *
 generalize X*Y'+Y*X'=A at *
 generalize Y*Y'+X*X'=B at *
 generalize x*y'+y*x'=s at *
 generalize y*y'+x*x'=v at *
 generalize Z*Z'=V at *
 clear hz hz'
 refine ex_ratios (fun k=>?_) (fun k=>?_) ?_ ?_
 ·have : PP ∣ 2 * V * (1 + U) := dv2 k kT (c1 := 1) (c2 := -2) (by grind)
  exact nz_mul pri_PP n2 c1 this
 ·have : PP ∣ 2 * V * (1 - U) := dv2 k kT (c1 := 1) (c2 := 2) (by grind)
  exact nz_mul pri_PP n2 c2 this
 ·exact dv3 j1 kT s1' (c1:=2) (c2:=-2*r.1) (c3:=-2*V) (by grind)
 ·exact dv3 j2 kT s2' (c1:=2) (c2:=2*r.2) (c3:=-2*V) (by grind)
def xaD (X Y:Int):Int:=(X+Y)*(X+Y) - (Y*Y+X*X)
def xbD (X Y:Int):Int:=Y*Y - X*X
def yaD (X Y:Int):Int:=Y*Y+X*X
def ybD (X Y Z:Int):Int:=(Z*Z+Z*Z) - (Y*Y - X*X)
theorem ex_double {X Y Z T:Int} {p:Int × Int} (hp:OnP PP (-1) d0 p) (ht:Ex X Y Z T p) :
  Ex (xaD X Y*ybD X Y Z) (yaD X Y*xbD X Y) (xbD X Y*ybD X Y Z) (xaD X Y*yaD X Y) (eadd (-1) d0 einv p p):=by
 have sm:=eadd_sm crv1 hp hp
 have c1:=crv1.cpl.p hp hp
 have c2:=crv1.cpl.q hp hp
 have on:PP ∣ (-1)*p.1 ^ 2+p.2 ^ 2 - 1 - d0*p.1 ^ 2*p.2 ^ 2:=hp
 generalize eadd (-1) d0 einv p p=r at *
 obtain ⟨x,y⟩:=p
 obtain ⟨hz,hx,hy,hT⟩:=ht
 simp only at hz hx hy hT c1 c2 on
 have s1:=sm.x
 have s2:=sm.y
 simp only at s1 s2
 clear sm hp hT
 have n1:¬ PP ∣ Z*Z:=nz_mul pri_PP hz hz
 have k1:PP ∣ X*X - Z*Z*(x*x):=dv2 hx hx (c1:=X+x*Z) (c2:=0) (by grind)
 have k2:PP ∣ Y*Y - Z*Z*(y*y):=dv2 hy hy (c1:=Y+y*Z) (c2:=0) (by grind)
 have k3:PP ∣ X*Y - Z*Z*(x*y):=dv2 hx hy (c1:=Y) (c2:=x*Z) (by grind)
 clear hx hy hz
 have o:PP ∣ y*y - x*x - 1 - d0*x*x*y*y:=dv2 on on (c1:=1) (c2:=0) (by grind)
 have s2':PP ∣ r.2*(1 - d0*x*x*y*y) - (y*y+x*x):=dv2 s2 s2 (c1:=1) (c2:=0) (by grind)
 have s1':PP ∣ r.1*(1+d0*x*x*y*y) - 2*(x*y):=dv2 s1 s1 (c1:=1) (c2:=0) (by grind)
 clear on s1 s2
 have e3:xaD X Y=2*(X*Y):=by unfold xaD;grind
 unfold xbD yaD ybD
 rw [e3]
 clear e3
 generalize d0*x*x*y*y=U at *
 generalize X*Y=A at *
 generalize x*y=a at *
 generalize X*X=B at *
 generalize Y*Y=C at *
 generalize Z*Z=V at *
 generalize x*x=b at *
 generalize y*y=c at *
 have m1:PP ∣ C - B - V*(1+U):=dv3 k1 k2 o (c1:=-1) (c2:=1) (c3:=V) (by grind)
 have m2:PP ∣ V+V - (C - B) - V*(1 - U):=dv2 m1 m1 (c1:=-1) (c2:=0) (by grind)
 have m3:PP ∣ C+B - V*(c+b):=dv2 k1 k2 (c1:=1) (c2:=1) (by grind)
 refine ex_ratios (fun k=>?_) (fun k=>?_) ?_ ?_
 ·exact nz_mul pri_PP n1 c1 (dv2 k m1 (c1:=1) (c2:=-1) (by grind))
 ·exact nz_mul pri_PP n1 c2 (dv2 k m2 (c1:=1) (c2:=-1) (by grind))
 ·exact dv3 k3 m1 s1' (c1:=2) (c2:=-r.1) (c3:=-V) (by grind)
 ·exact dv3 m3 m2 s2' (c1:=1) (c2:=-r.2) (c3:=-V) (by grind)
end Go.Proofs.YtnpolopcgmjmnaaGreatDoor
namespace Go.Proofs.YtnpolopcgmjmnaaGreatDoor
set_option maxRecDepth 100000
def dgt (v i:Nat):Nat:=v / 16 ^ (63 - i) % 16
def hdd (v i:Nat):Nat:=v / 16 ^ (64 - i)
theorem hdd_zero {v:Nat} (h:v < 2 ^ 256):hdd v 0=0:=by
 unfold hdd
 refine Nat.div_eq_of_lt ?_
 rw [show (16:Nat) ^ (64 - 0)=2 ^ 256 by decide +kernel]
 exact h
theorem hdd_all (v:Nat):hdd v 64=v:=by simp [hdd]
theorem hdd_next (v:Nat) {i:Nat} (h:i < 64):hdd v (i+1)=16*hdd v i+dgt v i:=by
 unfold hdd dgt
 rw [show 64 - (i+1)=63 - i by omega,show 64 - i=(63 - i)+1 by omega,Nat.pow_succ,← Nat.div_div_eq_div_mul]
 omega
end Go.Proofs.YtnpolopcgmjmnaaGreatDoor
namespace Go.Proofs.YtnpolopcgmjmnaaGreatDoor
set_option maxRecDepth 100000
open Go Go.RowKit
def clN:List (Nat→Int)→List Value
 | []=>[]
 | e :: es=>cl5 e ++ clN es
def agN (es:List (Nat→Int)):Value := .agg (clN es).toArray
def IsN:List (Nat→Int)→List Int→Prop
 | [],[]=>True
 | e :: es,A :: As=>Is5 e A∧IsN es As
 | _,_=>False
def EN (As:List Int):Fact:=⟨fun v _=>∃ es,v=agN es∧IsN es As,fun _ h=>h⟩
def RowN (W:World) (q o:Nat) (As:List Int):Prop:=∃ es,W.rangeAt q o (clN es)∧q < W.heap.size∧IsN es As
theorem clN_len:∀ {es:List (Nat→Int)} {As:List Int},IsN es As→(clN es).length=5*As.length
  | [],[],_=>rfl
  | e :: es, A :: As, h => by
    have:=clN_len h.2
    simp only [clN,List.length_append,List.length_cons,this]
    simp [cl5]
    omega
  | [],_ :: _,h=>h.elim
  | _ :: _,[],h=>h.elim
theorem clN_one:∀ (es:List (Nat→Int)),(clN es).toArray.all (·.oneCell')=true:=by
  intro es
  refine all_oneCell_toArray fun v hv=>?_
  induction es with
  | nil=>cases hv
  | cons e es ih =>
    rcases List.mem_append.1 hv with h | h
    · exact Array.all_eq_true_iff_forall_mem.1 (cl5_one e) v (by simpa using h)
    · exact ih h
theorem RowN.up {W W':World} {q o:Nat} {As:List Int} (h:RowN W q o As) (n:Below W.heap.size W W'):RowN W' q o As:=by
 obtain ⟨t,r,l,h⟩:=h
 exact ⟨t,fun j v hv=>(World.cell?_of_block (a:=⟨q,o+j,none⟩) (n.block q l)).trans (r j v hv),Nat.lt_of_lt_of_le l n.size,h⟩
theorem RowN.but {W W':World} {g o q:Nat} {As:List Int} (h:RowN W g o As) (k:ButQ q W W') (hne:g≠q):RowN W' g o As:=by
 obtain ⟨t,r,l,h⟩:=h
 exact ⟨t,fun j v hv=>(World.cell?_of_block (a:=⟨g,o+j,none⟩) (k.1 g hne l)).trans (r j v hv),Nat.lt_of_lt_of_le l k.2,h⟩
theorem RowN.lt {W:World} {q o:Nat} {As:List Int} (h:RowN W q o As):q < W.heap.size:=by
 obtain ⟨_,_,l,_⟩:=h
 exact l
theorem RowN.at0 {W:World} {q o:Nat} {A:Int} {As:List Int} (h:RowN W q o (A :: As)):Em5 W q o A:=by
  obtain ⟨es,r,l,h⟩:=h
  cases es with
  | nil=>exact h.elim
  | cons e es =>
    refine ⟨e,fun j v hv=>r j v ?_,l,h.1⟩
    show (cl5 e ++ clN es)[j]?=some v
    rw [List.getElem?_append_left (List.getElem?_eq_some_iff.1 hv).1]
    exact hv
theorem RowN.tail {W:World} {q o:Nat} {A:Int} {As:List Int} (h:RowN W q o (A :: As)):RowN W q (o+5) As:=by
  obtain ⟨es,r,l,h⟩:=h
  cases es with
  | nil=>exact h.elim
  | cons e es =>
    refine ⟨es,fun j v hv=>?_,l,h.2⟩
    have q:=r (5+j) v (by
      show (cl5 e ++ clN es)[5+j]?=some v
      rw [List.getElem?_append_right (by show 5≤_;omega)]
      show (clN es)[5+j - 5]?=some v
      rw [show 5+j - 5=j by omega]
      exact hv)
    rw [show o+5+j=o+(5+j) by omega]
    exact q
theorem RowN.init {W:World} {q o:Nat} {A B C:Int} {As:List Int} (h:RowN W q o (A :: B :: C :: As)):RowN W q o [A,B,C]:=by
  obtain ⟨es,r,l,h⟩:=h
  match es,h with
  | e :: f :: g :: es, h =>
    refine ⟨[e,f,g],fun j v hv=>r j v ?_,l,h.1,h.2.1,h.2.2.1,trivial⟩
    have hj:j < 15:=(List.getElem?_eq_some_iff.1 hv).1
    show (cl5 e ++ (cl5 f ++ (cl5 g ++ clN es)))[j]?=some v
    have e1:cl5 e ++ (cl5 f ++ (cl5 g ++ clN es))=clN [e,f,g] ++ clN es:=by simp [clN]
    rw [e1,List.getElem?_append_left (by show j < 15;exact hj)]
    exact hv
  | [],h=>exact h.elim
  | [_],h=>exact h.2.elim
  | [_,_],h=>exact h.2.2.elim
theorem rowN_new (W:World) (t:TypeId) {es:List (Nat→Int)} {As:List Int} (h:IsN es As):RowN (W.alloc (.cells (clN es).toArray t)) W.heap.size 0 As:=by
 have e:(W.alloc (.cells (clN es).toArray t)).heap[W.heap.size]?=some (.cells (clN es).toArray t):=heap_alloc_last _ _
 refine ⟨es,fun j v hv=>?_,by simp,h⟩
 unfold World.cell?
 simp only
 rw [e]
 simpa using hv
theorem set_rowN {W:World} {q:Nat} {es:List (Nat→Int)} {As:List Int} (th:W.there q 0 (5*As.length)) (ha:0 < As.length) (h:IsN es As):RowN (W.setCells q 0 (clN es)) q 0 As :=
 ⟨es,World.rangeAt_setCells_same W q 0 _ (by rw [clN_len h];exact th),by rw [heap_size_setCells];exact there_lt (by omega) th,h⟩
theorem IsN.cg:∀ {es:List (Nat→Int)} {As Bs:List Int},IsN es As→As.map (· % PP)=Bs.map (· % PP)→IsN es Bs
  | [],[],[],_,_=>trivial
  | e :: es, A :: As, B :: Bs, h, k => by
    simp only [List.map_cons,List.cons.injEq] at k
    exact ⟨⟨h.1.1,h.1.2.trans k.1⟩,IsN.cg h.2 k.2⟩
  | [],[],_ :: _,_,k=>by simp at k
  | _ :: _,_ :: _,[],_,k=>by simp at k
  | [],_ :: _,_,h,_=>h.elim
  | _ :: _,[],_,h,_=>h.elim
theorem isN3 {es:List (Nat→Int)} {A B C:Int} (h:IsN es [A,B,C]):∃ x y z,es=[x,y,z]∧Is5 x A∧Is5 y B∧Is5 z C:=by
 match es,h with
 | [x,y,z],h=>exact ⟨x,y,z,rfl,h.1,h.2.1,h.2.2.1⟩
 | [],h=>exact h.elim
 | [_],h=>exact h.2.elim
 | [_,_],h=>exact h.2.2.elim
 | _ :: _ :: _ :: _ :: _,h=>exact h.2.2.2.elim
theorem isN2 {es:List (Nat→Int)} {A B:Int} (h:IsN es [A,B]):∃ x y,es=[x,y]∧Is5 x A∧Is5 y B:=by
 match es,h with
 | [x,y],h=>exact ⟨x,y,rfl,h.1,h.2.1⟩
 | [],h=>exact h.elim
 | [_],h=>exact h.2.elim
 | _ :: _ :: _ :: _,h=>exact h.2.2.elim
theorem isN4 {es:List (Nat→Int)} {A B C D:Int} (h:IsN es [A,B,C,D]):∃ x y z t,es=[x,y,z,t]∧Is5 x A∧Is5 y B∧Is5 z C∧Is5 t D:=by
 match es,h with
 | [x,y,z,t],h=>exact ⟨x,y,z,t,rfl,h.1,h.2.1,h.2.2.1,h.2.2.2.1⟩
 | [],h=>exact h.elim
 | [_],h=>exact h.2.elim
 | [_,_],h=>exact h.2.2.elim
 | [_,_,_],h=>exact h.2.2.2.elim
 | _ :: _ :: _ :: _ :: _ :: _,h=>exact h.2.2.2.2.elim
theorem buA (e f:Nat→Int) (w:World):(Instr.build 85 #[(0,ag5 e),(1,ag5 f)]).run Tryz.prog w = .ok (agN [e,f]) w:=by kernel_rfl
theorem buRN (e f:Nat→Int) (w:World):(Instr.build 174 #[(0,ag5 e),(1,ag5 f)]).run Tryz.prog w = .ok (agN [e,f]) w:=by kernel_rfl
theorem buPr (e f g:Nat→Int) (w:World):(Instr.build 146 #[(0,ag5 e),(1,ag5 f),(2,ag5 g)]).run Tryz.prog w = .ok (agN [e,f,g]) w:=by kernel_rfl
theorem buXt (e f g t:Nat→Int) (w:World):(Instr.build 148 #[(0,agN [e,f,g]),(1,ag5 t)]).run Tryz.prog w = .ok (agN [e,f,g,t]) w:=by kernel_rfl
theorem fxA (q:Nat) (w:World):(Instr.fieldAt 85 (.pointer (some ⟨q,0,none⟩)) 0).run Tryz.prog w = .ok (.pointer (some ⟨q,0,none⟩)) w:=by kernel_rfl
theorem fyA (q:Nat) (w:World):(Instr.fieldAt 85 (.pointer (some ⟨q,0,none⟩)) 1).run Tryz.prog w = .ok (.pointer (some ⟨q,5,none⟩)) w:=by kernel_rfl
theorem fxJ (q:Nat) (w:World):(Instr.fieldAt 146 (.pointer (some ⟨q,0,none⟩)) 0).run Tryz.prog w = .ok (.pointer (some ⟨q,0,none⟩)) w:=by kernel_rfl
theorem fyJ (q:Nat) (w:World):(Instr.fieldAt 146 (.pointer (some ⟨q,0,none⟩)) 1).run Tryz.prog w = .ok (.pointer (some ⟨q,5,none⟩)) w:=by kernel_rfl
theorem fzJ (q:Nat) (w:World):(Instr.fieldAt 146 (.pointer (some ⟨q,0,none⟩)) 2).run Tryz.prog w = .ok (.pointer (some ⟨q,10,none⟩)) w:=by kernel_rfl
theorem fpX (q:Nat) (w:World):(Instr.fieldAt 148 (.pointer (some ⟨q,0,none⟩)) 0).run Tryz.prog w = .ok (.pointer (some ⟨q,0,none⟩)) w:=by kernel_rfl
theorem ftX (q:Nat) (w:World):(Instr.fieldAt 148 (.pointer (some ⟨q,0,none⟩)) 1).run Tryz.prog w = .ok (.pointer (some ⟨q,15,none⟩)) w:=by kernel_rfl
theorem iA:(Tryz.prog.info? 85).map (·.size)=some 10:=by kernel_rfl
theorem iJ:(Tryz.prog.info? 146).map (·.size)=some 15:=by kernel_rfl
theorem iX:(Tryz.prog.info? 148).map (·.size)=some 20:=by kernel_rfl
theorem uA:∃ fs,Tryz.prog.underlying 85=some (.struct fs):=⟨_,Tryz.underlying85⟩
theorem uJ:∃ fs,Tryz.prog.underlying 146=some (.struct fs):=⟨_,Tryz.underlying146⟩
theorem uX:∃ fs,Tryz.prog.underlying 148=some (.struct fs):=⟨_,Tryz.underlying148⟩
section
variable {ops : Array Oper} {Q : Exit → Act → World → Prop} {md : Region.Mode} {F : Nat → Fact} {a0 : Act} {w0 : World} {i : Nat} {o : Oper} {ts : Array TypeId}
theorem step_en (ty:TypeId) (d:TypeDesc) (n:Nat) (hu:Tryz.prog.underlying ty=some d) (hd:d.isRow=true) (hs:(Tryz.prog.info? ty).map (·.size)=some n) (hi:ops[i]?=some o) (p:Nat) (hop:o.op = .load ty (.tmp p)) (hp:apart ops p=true) (q off:Nat) (h0:a0.tmps.getD p undef = .pointer (some ⟨q,off,none⟩)) (As:List Int) (hn:5*As.length=n) (hE:RowN w0 q off As) (hF:F i=EN As):StepOk Tryz.prog md ops Q F a0 w0 i:=by
 refine step_load hi _ _ hop d n hu hd hs fun a w hb hw _=>?_
 obtain ⟨t,r,_,h⟩:=hE.up hw
 exact ⟨q,off,_,(based_at hb p hp).trans h0,r,(clN_len h).trans hn,by rw [hF];exact ⟨t,rfl,h⟩⟩
theorem step_enf (ty:TypeId) (d:TypeDesc) (n:Nat) (hu:Tryz.prog.underlying ty=some d) (hd:d.isRow=true) (hs:(Tryz.prog.info? ty).map (·.size)=some n) (hi:ops[i]?=some o) (p j:Nat) (hop:o.op = .load ty (.tmp p)) (hj:waits md ops i j p=true) (q off:Nat) (hFj:F j=Fact.eq (.pointer (some ⟨q,off,none⟩))) (As:List Int) (hn:5*As.length=n) (hE:RowN w0 q off As) (hF:F i=EN As):StepOk Tryz.prog md ops Q F a0 w0 i:=by
 refine step_load hi _ _ hop d n hu hd hs fun a w _ hw hf=>?_
 obtain ⟨t,r,_,h⟩:=hE.up hw
 have e:=hf j p hj
 rw [hFj] at e
 exact ⟨q,off,_,e,r,(clN_len h).trans hn,by rw [hF];exact ⟨t,rfl,h⟩⟩
theorem step_bA (hi:ops[i]?=some o) (p q j k:Nat) (A B:Int) (hop:o.op = .build 85 #[(0,.tmp p),(1,.tmp q)])
  (hj:waits md ops i j p=true) (hk:waits md ops i k q=true) (hFj:F j=EM A) (hFk:F k=EM B) (hFi:F i=EN [A,B]):StepOk Tryz.prog md ops Q F a0 w0 i:=by
 refine step_pure hi fun a w _ _ hf=>?_
 have h1:=hf j p hj
 have h2:=hf k q hk
 rw [hFj] at h1
 rw [hFk] at h2
 obtain ⟨x,e1,X⟩:=h1
 obtain ⟨y,e2,Y⟩:=h2
 refine ⟨agN [x,y],?_,by rw [hFi];exact ⟨[x,y],rfl,X,Y,trivial⟩⟩
 have g1:a.eval (.tmp p)=ag5 x:=e1
 have g2:a.eval (.tmp q)=ag5 y:=e2
 have g:(#[(0,Operand.tmp p),(1,Operand.tmp q)].map fun (n,x)=>(n,a.eval x)) = #[(0,ag5 x),(1,ag5 y)]:=by simp [g1,g2]
 simp only [execOp,hop,g]
 rw [Sem.run_bind,buA]
 rfl
theorem step_bR (hi:ops[i]?=some o) (p q j k:Nat) (A B:Int) (hop:o.op = .build 174 #[(0,.tmp p),(1,.tmp q)])
  (hj:waits md ops i j p=true) (hk:waits md ops i k q=true) (hFj:F j=EM A) (hFk:F k=EM B) (hFi:F i=EN [A,B]):StepOk Tryz.prog md ops Q F a0 w0 i:=by
 refine step_pure hi fun a w _ _ hf=>?_
 have h1:=hf j p hj
 have h2:=hf k q hk
 rw [hFj] at h1
 rw [hFk] at h2
 obtain ⟨x,e1,X⟩:=h1
 obtain ⟨y,e2,Y⟩:=h2
 refine ⟨agN [x,y],?_,by rw [hFi];exact ⟨[x,y],rfl,X,Y,trivial⟩⟩
 have g1:a.eval (.tmp p)=ag5 x:=e1
 have g2:a.eval (.tmp q)=ag5 y:=e2
 have g:(#[(0,Operand.tmp p),(1,Operand.tmp q)].map fun (n,x)=>(n,a.eval x)) = #[(0,ag5 x),(1,ag5 y)]:=by simp [g1,g2]
 simp only [execOp,hop,g]
 rw [Sem.run_bind,buRN]
 rfl
theorem step_bP (hi:ops[i]?=some o) (p q r j k l:Nat) (A B C:Int) (hop:o.op = .build 146 #[(0,.tmp p),(1,.tmp q),(2,.tmp r)])
  (hj:waits md ops i j p=true) (hk:waits md ops i k q=true) (hl:waits md ops i l r=true) (hFj:F j=EM A) (hFk:F k=EM B) (hFl:F l=EM C) (hFi:F i=EN [A,B,C]):StepOk Tryz.prog md ops Q F a0 w0 i:=by
 refine step_pure hi fun a w _ _ hf=>?_
 have h1:=hf j p hj
 have h2:=hf k q hk
 have h3:=hf l r hl
 rw [hFj] at h1
 rw [hFk] at h2
 rw [hFl] at h3
 obtain ⟨x,e1,X⟩:=h1
 obtain ⟨y,e2,Y⟩:=h2
 obtain ⟨z,e3,Z⟩:=h3
 refine ⟨agN [x,y,z],?_,by rw [hFi];exact ⟨[x,y,z],rfl,X,Y,Z,trivial⟩⟩
 have g1:a.eval (.tmp p)=ag5 x:=e1
 have g2:a.eval (.tmp q)=ag5 y:=e2
 have g3:a.eval (.tmp r)=ag5 z:=e3
 have g:(#[(0,Operand.tmp p),(1,Operand.tmp q),(2,Operand.tmp r)].map fun (n,x)=>(n,a.eval x)) = #[(0,ag5 x),(1,ag5 y),(2,ag5 z)]:=by simp [g1,g2,g3]
 simp only [execOp,hop,g]
 rw [Sem.run_bind,buPr]
 rfl
theorem step_bX (hi:ops[i]?=some o) (p q j k:Nat) (A B C T:Int) (hop:o.op = .build 148 #[(0,.tmp p),(1,.tmp q)])
  (hj:waits md ops i j p=true) (hk:waits md ops i k q=true) (hFj:F j=EN [A,B,C]) (hFk:F k=EM T) (hFi:F i=EN [A,B,C,T]):StepOk Tryz.prog md ops Q F a0 w0 i:=by
 refine step_pure hi fun a w _ _ hf=>?_
 have h1:=hf j p hj
 have h2:=hf k q hk
 rw [hFj] at h1
 rw [hFk] at h2
 obtain ⟨xs,e1,X⟩:=h1
 obtain ⟨t,e2,Y⟩:=h2
 obtain ⟨x,y,z,rfl,hx,hy,hz⟩:=isN3 X
 refine ⟨agN [x,y,z,t],?_,by rw [hFi];exact ⟨[x,y,z,t],rfl,hx,hy,hz,Y,trivial⟩⟩
 have g1:a.eval (.tmp p)=agN [x,y,z]:=e1
 have g2:a.eval (.tmp q)=ag5 t:=e2
 have g:(#[(0,Operand.tmp p),(1,Operand.tmp q)].map fun (n,x)=>(n,a.eval x)) = #[(0,agN [x,y,z]),(1,ag5 t)]:=by simp [g1,g2]
 simp only [execOp,hop,g]
 rw [Sem.run_bind,buXt]
 rfl
theorem step_oneN (hi:ops[i]?=some o) (n:FuncId) (p:Nat) (hop:o.op = .call { callee := .value (.func n),args := #[.tmp p],argTypes:=ts }) (he:enters Tryz.prog n=true)
  (j:Nat) (As Bs:List Int) (law:∀ (w:World) (es:List (Nat→Int)),Below w0.heap.size w0 w→IsN es As→Calls Tryz.prog n #[agN es] w fun r w'=>∃ t,r = .returned (agN t)∧IsN t Bs∧Below w.heap.size w w')
  (hj:waits md ops i j p=true) (hFj:F j=EN As) (hFi:F i=EN Bs):StepOk Tryz.prog md ops Q F a0 w0 i:=by
 refine step_call hi n _ ts hop he fun a w _ hw hF=>?_
 have ea:=hF j p hj
 rw [hFj] at ea
 obtain ⟨t,e1,L1⟩:=ea
 show Calls Tryz.prog n #[a.tmps.getD p undef] w _
 rw [e1]
 refine (law w t hw L1).mono ?_
 rintro r w' ⟨s,rfl,L,hn⟩
 rw [hFi]
 exact ⟨_,rfl,hn,s,rfl,L⟩
theorem step_twoN (hi:ops[i]?=some o) (n:FuncId) (p q:Nat) (hop:o.op = .call { callee := .value (.func n),args := #[.tmp p,.tmp q],argTypes:=ts }) (he:enters Tryz.prog n=true)
  (j k:Nat) (As Bs Cs:List Int) (law:∀ (w:World) (es fs:List (Nat→Int)),Below w0.heap.size w0 w→IsN es As→IsN fs Bs→Calls Tryz.prog n #[agN es,agN fs] w fun r w'=>∃ t,r = .returned (agN t)∧IsN t Cs∧Below w.heap.size w w')
  (hj:waits md ops i j p=true) (hk:waits md ops i k q=true) (hFj:F j=EN As) (hFk:F k=EN Bs) (hFi:F i=EN Cs):StepOk Tryz.prog md ops Q F a0 w0 i:=by
 refine step_call hi n _ ts hop he fun a w _ hw hF=>?_
 have ea:=hF j p hj
 have eb:=hF k q hk
 rw [hFj] at ea
 rw [hFk] at eb
 obtain ⟨t,e1,L1⟩:=ea
 obtain ⟨u,e2,L2⟩:=eb
 show Calls Tryz.prog n #[a.tmps.getD p undef,a.tmps.getD q undef] w _
 rw [e1,e2]
 refine (law w t u hw L1 L2).mono ?_
 rintro r w' ⟨s,rfl,L,hn⟩
 rw [hFi]
 exact ⟨_,rfl,hn,s,rfl,L⟩
end
section
variable {ops : Array Oper} {Q : Exit → Act → World → Prop} {a0 : Act} {w : World} {id : Nat} {draw : Bool}
theorem region_putN (ty:TypeId) (k jV pD pV:Nat) (o:Oper) (F:Nat→Fact) (As:List Int) (q:Nat) (hT:textOk .any ops a0.tmps.size k=true) (hk:ops[k]?=some o) (hd:o.dst=none) (hop:o.op = .store ty (.tmp pD) (.tmp pV)) (hs:(Tryz.prog.info? ty).map (·.size)=some (5*As.length)) (ha:0 < As.length)
  (hp:apart ops pD=true) (h0:a0.tmps.getD pD undef = .pointer (some ⟨q,0,none⟩)) (ht:w.there q 0 (5*As.length)) (wV:writes ops jV pV=true) (FV:F jV=EN As) (steps:∀ i,i < k→StepOk Tryz.prog .any ops Q F a0 w i)
  (fin:∀ (vs:Nat→Value) (W W':World),Below w.heap.size w W→ButQ q w W'→RowN W' q 0 As→(∀ (w1:World) (B:Nat),Below B w1 W→B≤q→Below B w1 W')→W'.there q 0 (5*As.length)→Q .normal (puts vs a0 ops.toList) W') :
  (Code.region id ops draw).wp Tryz.prog Q a0 w:=by
 refine region_store k o F (by kernel_rfl) hT hk hd steps fun a W hb hw hF=>?_
 have h2:=hF jV pV wV
 rw [FV] at h2
 obtain ⟨es,ev,V⟩:=h2
 have th:=there_up (by omega) ht hw
 refine wp_store_mid ty (.tmp pD) (.tmp pV) hop q 0 (clN es).toArray ((based_at hb pD hp).trans h0) ev (by show W.there q 0 (clN es).length;rw [clN_len V];exact th) (by show _=some (clN es).length;rw [clN_len V];exact hs) (clN_one es) ?_
 obtain ⟨vs,hvs⟩:∃ vs:Nat→Value,∀ d,a.tmps.getD d undef=vs d:=⟨_,fun _=>rfl⟩
 rw [hd]
 show Q .normal a _
 rw [puts_of hT rfl hb vs hvs]
 exact fin vs W _ hw (but_set hw _) (set_rowN th ha V) (fun w1 B n hB=>below_setCells hB _ _ _ n) (World.there_setCells th _ _ _)
end
end Go.Proofs.YtnpolopcgmjmnaaGreatDoor
namespace Go.Proofs.YtnpolopcgmjmnaaGreatDoor
set_option maxRecDepth 100000
open Go Go.RowKit
def mlP (n:Nat) (p:Int × Int):Int × Int:=emul (-1) d0 einv n p
def Ext (es:List (Nat→Int)) (q:Int × Int):Prop:=∃ X Y Z T,IsN es [X,Y,Z,T]∧Ex X Y Z T q
theorem IsN.len:∀ {es:List (Nat→Int)} {As:List Int},IsN es As→es.length=As.length
 | [],[],_=>rfl
 | _ :: _,_ :: _,h=>by simp [IsN.len h.2]
 | [],_ :: _,h=>h.elim
 | _ :: _,[],h=>h.elim
theorem Ext.len {es:List (Nat→Int)} {q:Int × Int} (h:Ext es q):es.length=4:=by
 obtain ⟨X,Y,Z,T,h,_⟩:=h
 exact h.len
theorem Ext.cg {es:List (Nat→Int)} {q q':Int × Int} (h:Ext es q) (e:Pe PP q q'):Ext es q':=by
 obtain ⟨X,Y,Z,T,h,k⟩:=h
 exact ⟨X,Y,Z,T,h,k.cg e⟩
theorem mlP_on {p:Int × Int} (hp:OnP PP (-1) d0 p) (n:Nat):OnP PP (-1) d0 (mlP n p):=emul_on crv1 hp n
theorem mlP_add {p:Int × Int} (hp:OnP PP (-1) d0 p) (m n:Nat):Pe PP (eadd (-1) d0 einv (mlP m p) (mlP n p)) (mlP (m+n) p):=(emul_add crv1 hp m n).symm
theorem mlP_one {p:Int × Int} (hp:OnP PP (-1) d0 p):Pe PP (mlP 1 p) p:=by
 have z:OnP PP (-1) d0 (0,1):=emul_on crv1 hp 0
 show Pe PP (eadd (-1) d0 einv (0,1) p) p
 exact (eadd_comm crv1 z hp).trans (eadd_zero crv1 hp)
theorem clN_app:∀ (a b:List (Nat→Int)),clN (a ++ b)=clN a ++ clN b
  | [],_=>rfl
  | e :: a, b => by
    show cl5 e ++ clN (a ++ b)=(cl5 e ++ clN a) ++ clN b
    rw [clN_app a b,List.append_assoc]
theorem clN_size:∀ (a:List (Nat→Int)),(clN a).length=5*a.length
  | []=>rfl
  | e :: a => by
    show (cl5 e ++ clN a).length=_
    rw [List.length_append,clN_size a]
    simp [cl5]
    omega
def prt (es:List (Nat→Int)) (i:Nat):List (Nat→Int):=(es.drop (4*i)).take 4
def putP (es fs:List (Nat→Int)) (i:Nat):List (Nat→Int):=es.take (4*i) ++ (fs ++ es.drop (4*i+4))
theorem prt_split {es:List (Nat→Int)} {i:Nat}:es=es.take (4*i) ++ (prt es i ++ es.drop (4*i+4)):=by
 unfold prt
 rw [← List.drop_drop,List.take_append_drop,List.take_append_drop]
theorem prt_len {es:List (Nat→Int)} (h:es.length=64) {i:Nat} (hi:i < 16):(prt es i).length=4:=by
 unfold prt
 rw [List.length_take,List.length_drop]
 omega
theorem putP_len {es fs:List (Nat→Int)} (h:es.length=64) (hf:fs.length=4) {i:Nat} (hi:i < 16):(putP es fs i).length=64:=by
 unfold putP
 rw [List.length_append,List.length_append,List.length_take,List.length_drop]
 omega
theorem prt_put {es fs:List (Nat→Int)} (h:es.length=64) (hf:fs.length=4) {i:Nat} (hi:i < 16):prt (putP es fs i) i=fs:=by
 unfold prt putP
 have e:(es.take (4*i)).length=4*i:=by rw [List.length_take];omega
 rw [List.drop_append_of_le_length (by omega),List.drop_eq_nil_of_le (by omega),List.nil_append,List.take_append_of_le_length (by omega),List.take_of_length_le (by omega)]
theorem prt_put_ne {es fs:List (Nat→Int)} (h:es.length=64) {i j:Nat} (hi:i < 16) (hj:j < i):prt (putP es fs i) j=prt es j:=by
 unfold prt putP
 have e:(es.take (4*i)).length=4*i:=by rw [List.length_take];omega
 rw [List.drop_append_of_le_length (by omega),List.take_append_of_le_length (by rw [List.length_drop];omega),List.drop_take,List.take_take,Nat.min_eq_left (by omega)]
def MulL (es:List (Nat→Int)) (k:Nat) (p:Int × Int):Prop:=es.length=64∧∀ i,i < k→Ext (prt es i) (mlP i p)
theorem MulL.put {es fs:List (Nat→Int)} {k:Nat} {p:Int × Int} (h:MulL es k p) (hk:k < 16) (hf:Ext fs (mlP k p)):MulL (putP es fs k) (k+1) p:=by
 refine ⟨putP_len h.1 hf.len hk,fun i hi=>?_⟩
 by_cases e:i=k
 ·subst e
  rw [prt_put h.1 hf.len hk]
  exact hf
 ·rw [prt_put_ne h.1 hk (by omega)]
  exact h.2 i (by omega)
theorem range_of_app {W:World} {q o:Nat} {a b:List Value} (h:W.rangeAt q o (a ++ b)):W.rangeAt q o a∧W.rangeAt q (o+a.length) b:=by
 refine ⟨fun j v hv=>h j v ?_,fun j v hv=>?_⟩
 ·rw [List.getElem?_append_left (List.getElem?_eq_some_iff.1 hv).1]
  exact hv
 ·have := h (a.length + j) v (by rw [List.getElem?_append_right (by omega), Nat.add_sub_cancel_left]; exact hv)
  rwa [← Nat.add_assoc] at this
theorem range_app {W:World} {q o:Nat} {a b:List Value} (h:W.rangeAt q o a) (k:W.rangeAt q (o+a.length) b):W.rangeAt q o (a ++ b):=by
 intro j v hv
 by_cases c:j < a.length
 ·rw [List.getElem?_append_left c] at hv
  exact h j v hv
 ·rw [List.getElem?_append_right (by omega)] at hv
  have:=k _ v hv
  rwa [show o+a.length+(j - a.length)=o+j by omega] at this
theorem row_part {W:World} {q:Nat} {es:List (Nat→Int)} (h:W.rangeAt q 0 (clN es)) (hl:es.length=64) {i:Nat} (hi:i < 16):W.rangeAt q (20*i) (clN (prt es i)):=by
 have e:=prt_split (es:=es) (i:=i)
 rw [e,clN_app,clN_app] at h
 have h1:=(range_of_app h).2
 have h2:=(range_of_app h1).1
 rw [clN_size,List.length_take,Nat.min_eq_left (by omega)] at h2
 rwa [show 0+5*(4*i)=20*i by omega] at h2
theorem row_put {W:World} {q:Nat} {es fs:List (Nat→Int)} (th:W.there q 0 320) (h:W.rangeAt q 0 (clN es)) (hl:es.length=64) (hf:fs.length=4) {i:Nat} (hi:i < 16):(W.setCells q (20*i) (clN fs)).rangeAt q 0 (clN (putP es fs i)):=by
 have e:=prt_split (es:=es) (i:=i)
 rw [e,clN_app,clN_app] at h
 have h1:=(range_of_app h).2
 have h0:=(range_of_app h).1
 have h2:=(range_of_app h1).2
 have lt:(clN (es.take (4*i))).length=20*i:=by rw [clN_size,List.length_take,Nat.min_eq_left (by omega)];omega
 have lp:(clN (prt es i)).length=20:=by rw [clN_size,prt_len hl hi]
 have lf:(clN fs).length=20:=by rw [clN_size,hf]
 unfold putP
 rw [clN_app,clN_app]
 refine range_app ?_ (range_app ?_ ?_)
 ·exact World.rangeAt_setCells_apart h0 q (20*i) (clN fs) (.inr (.inl (by omega)))
 ·rw [lt, Nat.zero_add]
  refine World.rangeAt_setCells_same W q (20*i) _ fun j hj=>?_
  have:=th (20*i+j) (by omega)
  rwa [Nat.zero_add] at this
 ·rw [lt] at h2 ⊢
  rw [lp] at h2
  rw [lf]
  exact World.rangeAt_setCells_apart h2 q (20*i) (clN fs) (.inr (.inr (by omega)))
def zl5:Nat→Int:=fun _=>0
theorem dgt_words {W:Nat→Int} (hW:W4 W) {v:Nat} (hv:wval W=(v:Int)) {pl:Nat} (h:pl < 64):W (pl / 16) / 2 ^ (4*(pl % 16)) % 16=((v / 16 ^ pl % 16:Nat):Int):=by
 have key:∃ (m t:Nat),W (pl / 16)=(m:Int)∧v / 2 ^ (64*(pl / 16))=m+2 ^ 64*t:=by
  obtain ⟨n0,h0⟩:=Int.eq_ofNat_of_zero_le (hW 0 (by omega)).1
  obtain ⟨n1,h1⟩:=Int.eq_ofNat_of_zero_le (hW 1 (by omega)).1
  obtain ⟨n2,h2⟩:=Int.eq_ofNat_of_zero_le (hW 2 (by omega)).1
  obtain ⟨n3,h3⟩:=Int.eq_ofNat_of_zero_le (hW 3 (by omega)).1
  have b0:=(hW 0 (by omega)).2
  have b1:=(hW 1 (by omega)).2
  have b2:=(hW 2 (by omega)).2
  have b3:=(hW 3 (by omega)).2
  unfold wval at hv
  rw [h0,h1,h2,h3] at hv
  rw [h0] at b0
  rw [h1] at b1
  rw [h2] at b2
  rw [h3] at b3
  obtain e | e | e | e:pl / 16=0∨pl / 16=1∨pl / 16=2∨pl / 16=3:=by omega
  ·exact ⟨n0,n1+n2*18446744073709551616+n3*340282366920938463463374607431768211456,by rw [e];exact h0,by rw [e];simp only [Nat.mul_zero,Nat.pow_zero,Nat.div_one,Nat.reducePow];omega⟩
  ·exact ⟨n1,n2+n3*18446744073709551616,by rw [e];exact h1,by rw [e];simp only [Nat.mul_one,Nat.reducePow];omega⟩
  ·exact ⟨n2,n3,by rw [e];exact h2,by rw [e];simp only [Nat.reduceMul,Nat.reducePow];omega⟩
  ·exact ⟨n3,0,by rw [e];exact h3,by rw [e];simp only [Nat.reduceMul,Nat.reducePow];omega⟩
 obtain ⟨m,t,e1,e2⟩:=key
 have e3:(16:Nat) ^ pl=2 ^ (64*(pl / 16))*2 ^ (4*(pl % 16)):=by
  rw [show (16:Nat)=2 ^ 4 from rfl,← Nat.pow_mul,← Nat.pow_add]
  congr 1
  omega
 rw [e1,e3,← Nat.div_div_eq_div_mul,e2]
 have r16:pl % 16 < 16:=by omega
 generalize pl % 16=r at *
 have e4:(2:Nat) ^ 64*t=2 ^ (4*r)*(16*(2 ^ (60 - 4*r)*t)):=by
  have e5:(2:Nat) ^ 64=2 ^ (4*r)*(16*2 ^ (60 - 4*r)):=by
   rw [show (16:Nat)=2 ^ 4 from rfl,← Nat.pow_add,← Nat.pow_add]
   congr 1
   omega
  rw [e5]
  simp only [Nat.mul_assoc]
 rw [e4,Nat.add_mul_div_left _ _ (Nat.two_pow_pos _),Nat.add_mul_mod_self_left]
 rw [Int.natCast_emod,Int.natCast_ediv,Int.natCast_pow]
 rfl
theorem mrg_ok (b:Bool) (x y:Int) (hx:0≤x∧x < 18446744073709551616) (hy:0≤y∧y < 18446744073709551616) (h0:b=true→x=0) :
  bits BinOp.or IntKind.u64 x (bits BinOp.and IntKind.u64 y (mask b))=if b=true then y else x:=by
 obtain ⟨m,rfl⟩:=Int.eq_ofNat_of_zero_le hx.1
 obtain ⟨n,rfl⟩:=Int.eq_ofNat_of_zero_le hy.1
 have hm:m < 18446744073709551616:=by omega
 have hn:n < 18446744073709551616:=by omega
 cases b
 ·have e : bits BinOp.and IntKind.u64 (n : Int) (mask false) = ((0 : Nat) : Int) := by
   unfold mask
   rw [if_neg (by simp),show (0:Int)=((0:Nat):Int) from rfl,bits_and_u64_nat _ 0 hn (by omega),Nat.and_zero]
  rw [e,bits_or_u64_nat m 0 hm (by omega),Nat.or_zero]
  simp
 ·have e : bits BinOp.and IntKind.u64 (n : Int) (mask true) = ((n : Nat) : Int) := by
   unfold mask
   rw [if_pos rfl,show (18446744073709551615:Int)=((18446744073709551615:Nat):Int) from rfl,bits_and_u64_nat _ _ hn (by omega)]
   congr 1
   rw [show (18446744073709551615:Nat)=2 ^ 64 - 1 from rfl,Nat.and_two_pow_sub_one_eq_mod,Nat.mod_eq_of_lt hn]
  have z:m=0:=by have:=h0 rfl;omega
  subst z
  rw [e,bits_or_u64_nat 0 n (by omega) hn,Nat.zero_or]
  simp
theorem xor_zero {i d:Nat} (h:i ^^^ d=0):i=d:=by
 have:i ^^^ d ^^^ d=0 ^^^ d:=by rw [h]
 rwa [Nat.xor_assoc,Nat.xor_self,Nat.xor_zero,Nat.zero_xor] at this
theorem msk_ok (i d:Nat) (hi:i < 16) (hd:d < 16):∃ x:Nat,bits BinOp.xor IntKind.u64 (i:Int) (d:Int)=(x:Int)∧x < 16∧(x=0↔i=d):=by
 refine ⟨i ^^^ d,bits_xor_u64_nat i d (by omega) (by omega),Nat.xor_lt_two_pow (n:=4) hi hd,⟨xor_zero,fun h=>?_⟩⟩
 subst h
 exact Nat.xor_self i
end Go.Proofs.YtnpolopcgmjmnaaGreatDoor
namespace Go.Proofs.YtnpolopcgmjmnaaGreatDoor
set_option maxRecDepth 100000
open Go Go.RowKit
structure Mg (w wr:World) (q o:Nat) (y:Nat→Int):Prop where
 at5:∀ j,j < 5→wr.cell? ⟨q,o+j,none⟩=some (.int .u64 (y j))
 off:∀ j,j < o∨o+5≤j→wr.cell? ⟨q,j,none⟩=w.cell? ⟨q,j,none⟩
 fr:∀ j,wr.frozen? ⟨q,j,none⟩=w.frozen? ⟨q,j,none⟩
 only:Only q w wr
theorem Mg.refl {w:World} {q o:Nat} {y:Nat→Int} (h:∀ j,j < 5→w.cell? ⟨q,o+j,none⟩=some (.int .u64 (y j))):Mg w w q o y:=⟨h,fun _ _=>rfl,fun _=>rfl,Only.refl _ _⟩
theorem Mg.store {w wr:World} {q o:Nat} {y:Nat→Int} (h:Mg w wr q o y) (k:Nat) (hk:k < 5) (z:Int) (n:Nat):Mg w ((wr.drewN n).setCell ⟨q,o+k,none⟩ (.int .u64 z)) q o (fun j=>if j=k then z else y j):=by
 have h':∀ a,(wr.drewN n).cell? a=wr.cell? a:=fun _=>rfl
 refine ⟨fun j hj=>?_,fun j hj=>?_,fun j=>?_,h.only.trans ((Only.drewN wr q n).trans (Only.setCell _ _ _ _))⟩
 ·by_cases e : j = k
  ·subst e
   rw [World.cell?_setCell_same _ _ _ ((h' _).trans (h.at5 j hj)),if_pos rfl]
  ·have hne : (⟨q, o + k, none⟩ : Addr) ≠ ⟨q, o + j, none⟩ := fun h => e (by simp only [Addr.mk.injEq, true_and, and_true] at h; omega)
   rw [World.cell?_setCell_other (h:=hne),h',if_neg e]
   exact h.at5 j hj
 ·have hne : (⟨q, o + k, none⟩ : Addr) ≠ ⟨q, j, none⟩ := fun h => (by simp only [Addr.mk.injEq, true_and, and_true] at h; omega)
  rw [World.cell?_setCell_other (h:=hne),h']
  exact h.off j hj
 ·rw [World.frozen?_setCell]
  exact h.fr j
theorem Mg.cg {w wr:World} {q o:Nat} {y z:Nat→Int} (h:Mg w wr q o y) (e:∀ j,j < 5→y j=z j):Mg w wr q o z:=⟨fun j hj=>by rw [← e j hj];exact h.at5 j hj,h.off,h.fr,h.only⟩
def mgd (b:Bool) (x e:Nat→Int) (j:Nat):Int:=if b=true then e j else x j
def mgk (b:Bool) (k:Nat) (x e:Nat→Int) (j:Nat):Int:=if j < k then mgd b x e j else x j
set_option maxHeartbeats 4000000 in
theorem merge_any (w : World) (q o : Nat) (b : Bool) (x e : Nat → Int) (hx : ∀ j, j < 5 → w.cell? ⟨q, o + j, none⟩ = some (.int .u64 (x j))) (hf : ∀ j, w.frozen? ⟨q, j, none⟩ = false) (bx : ∀ j, j < 5 → 0 ≤ x j ∧ x j < 18446744073709551616) (be : ∀ j, j < 5 → 0 ≤ e j ∧ e j < 18446744073709551616) (h0 : b = true → ∀ j, j < 5 → x j = 0) :
  Calls Tryz.prog 113 #[.pointer (some ⟨q,o,none⟩),ag5 e,.int .u64 (mask b)] w fun r w'=>r = .returned (.tuple #[])∧∃ w1,Below w.heap.size w w1∧Mg w1 w' q o (mgd b x e):=by
 have lq:q < w.heap.size:=block_lt_of_cell (hx 0 (by omega))
 have n0:Below w.heap.size w (w.alloc (.cells (cl5 e).toArray 83)):=(Below.refl _ _).alloc (Nat.le_refl _) _
 have M0:Mg (w.alloc (.cells (cl5 e).toArray 83)) (w.alloc (.cells (cl5 e).toArray 83)) q o x:=Mg.refl fun j hj=>(World.cell?_of_block (a:=⟨q,o+j,none⟩) (n0.block q lq)).trans (hx j hj)
 have F0:∀ j,(w.alloc (.cells (cl5 e).toArray 83)).frozen? ⟨q,j,none⟩=false:=fun j=>(World.frozen?_of_block (a:=⟨q,j,none⟩) (n0.block q lq)).trans (hf j)
 have E0:∀ j,j < 5→(w.alloc (.cells (cl5 e).toArray 83)).cell? ⟨w.heap.size,j,none⟩=some (.int .u64 (e j)):=by
  have e1:(w.alloc (.cells (cl5 e).toArray 83)).heap[w.heap.size]?=some (.cells (cl5 e).toArray 83):=heap_alloc_last _ _
  intro j hj
  unfold World.cell?
  simp only
  rw [e1]
  obtain rfl | rfl | rfl | rfl | rfl:j=0∨j=1∨j=2∨j=3∨j=4:=by omega
  all_goals rfl
 show Calls Tryz.prog 113 #[.pointer (some ⟨q,o,none⟩),.agg (cl5 e).toArray,.int .u64 (mask b)] w _
 generalize hw1:w.alloc (.cells (cl5 e).toArray 83)=w1 at *
 have hw1':=hide hw1
 obtain ⟨V,hV⟩:∃ V,V=(cl5 e).toArray:=⟨_,rfl⟩
 rw [← hV] at hw1 ⊢
 clear hV
 go_enter Tryz.func113,Tryz.ntmps113
 go_upto_region 1 with fail
 clear hw1 hx hf
 go_wp2
 go_loopw [7] (fun i wr=>∃ k:Nat,k≤5∧i = .int .i64 k∧Mg w1 wr q o (mgk b k x e)) (fun i _=>5 - (intOf i).toNat)
 case atStart=>exact ⟨0,by omega,rfl,M0.cg fun j _=>by simp [mgk]⟩
 case round =>
  obtain ⟨k,hk,rfl,M⟩:=hrel
  by_cases hlt:k < 5
  ·have k5 : (k : Int) < 5 := by omega
   have c1:=M.at5 k hlt
   unfold mgk at c1
   rw [if_neg (by omega)] at c1
   have f1:=(M.fr (o+k)).trans (F0 (o+k))
   have c2:=(World.cell?_of_block (a:=⟨w.heap.size,k,none⟩) (M.only.block w.heap.size (by omega))).trans (E0 k hlt)
   have X:=mrg_ok b (x k) (e k) (bx k hlt) (be k hlt) (fun h=>h0 h k hlt)
   obtain ⟨z,hz⟩:∃ z,z=if b=true then e k else x k:=⟨_,rfl⟩
   rw [← hz] at X
   have PK:Hid (∀ n,Mg w1 ((wr.drewN n).setCell ⟨q,o+k,none⟩ (.int .u64 z)) q o (mgk b (k+1) x e)):=by
    intro n
    refine (M.store k hlt z n).cg fun j hj=>?_
    unfold mgk mgd
    by_cases c:j=k
    ·subst c
     have c3:j < j+1:=by omega
     rw [if_pos rfl,if_pos c3]
     exact hz
    ·rw [if_neg c]
     by_cases c2:j < k
     ·have c3 : j < k + 1 := by omega
      rw [if_pos c2,if_pos c3]
     ·have c3 : ¬ j < k + 1 := by omega
      rw [if_neg c2,if_neg c3]
   clear M hz bx be h0 F0 E0 M0
   generalize x k=xk at *
   generalize e k=ek at *
   generalize mask b=m at *
   go_wp2
   go_region
   go_wp2
   exact ⟨⟨k+1,by omega,by go_num,PK.out _⟩,by simp [intOf];omega⟩
  ·obtain rfl : k = 5 := by omega
   go_wp2
   go_end0
   refine ⟨rfl,w1,n0,M.cg fun j hj=>?_⟩
   unfold mgk
   rw [if_pos hj]
theorem and15_64 (x:Int) (h0:0≤x) (h1:x < 18446744073709551616):bits BinOp.and IntKind.u64 x 15=x % 16:=bits_mask .u64 64 (by decide) wraps_u64 4 (by decide) x h0 h1
set_option maxHeartbeats 4000000 in
theorem digit_any (w:World) (W:Nat→Int) (hW:W4 W) (n:Nat) (hn:n < 64) :
  Calls Tryz.prog 95 #[ag4 W,.int .i64 n] w fun r w'=>r = .returned (.int .u64 (W (n / 16) / 2 ^ (4*(n % 16)) % 16))∧Below w.heap.size w w':=by
 have B0:=blk_box4 w .u64 87 (W 0) (W 1) (W 2) (W 3)
 have n0:Below w.heap.size w (w.alloc (.cells #[.int .u64 (W 0),.int .u64 (W 1),.int .u64 (W 2),.int .u64 (W 3)] 87)):=(Below.refl _ _).alloc (Nat.le_refl _) _
 obtain ⟨j,hj⟩:∃ j:Nat,n / 16=j:=⟨_,rfl⟩
 obtain ⟨m,hm⟩:∃ m:Nat,n % 16=m:=⟨_,rfl⟩
 have j4:j < 4:=by omega
 have m16:m < 16:=by omega
 have p1:(n:Int) / 16=(j:Int):=by omega
 have p2:(n:Int) % 16=(m:Int):=by omega
 obtain ⟨s,hs⟩:∃ s:Nat,4*m=s:=⟨_,rfl⟩
 have p3:4*(m:Int)=(s:Int):=by omega
 have s64:s < 64:=by omega
 rw [hj,hm,hs]
 have cj:=B0.cell (i:=j) (by simpa using j4)
 have gj:[W 0,W 1,W 2,W 3].getD j 0=W j:=by
  obtain rfl | rfl | rfl | rfl:j=0∨j=1∨j=2∨j=3:=by omega
  all_goals rfl
 rw [gj] at cj
 have wb:=hW j j4
 have pm:(0:Int) < 2 ^ s:=Int.pow_pos (by decide)
 have v0:0≤W j / 2 ^ s:=Int.ediv_nonneg wb.1 (Int.le_of_lt pm)
 have v1:W j / 2 ^ s < 18446744073709551616:=Int.lt_of_le_of_lt (Int.ediv_le_self _ wb.1) wb.2
 have e1:=and15_64 _ v0 v1
 clear hj hm gj hs
 simp only [ag4]
 go_enter Tryz.func95,Tryz.ntmps95
 go_wp2_with fail
 generalize w.alloc (.cells #[.int .u64 (W 0),.int .u64 (W 1),.int .u64 (W 2),.int .u64 (W 3)] 87)=wa at *
 clear B0 hW
 generalize W j=z at *
 go_wp2
 go_ret
 exact ⟨rfl,n0⟩
end Go.Proofs.YtnpolopcgmjmnaaGreatDoor
