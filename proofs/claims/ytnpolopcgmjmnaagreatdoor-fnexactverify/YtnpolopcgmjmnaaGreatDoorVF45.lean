import Derived.Test.YtnpolopcgmjmnaaGreatDoorVF44
import Derived.Lib.LaidTab
import Derived.Lib.LaidU8
import Derived.LaidMore
namespace Go.Proofs.YtnpolopcgmjmnaaGreatDoor
set_option maxRecDepth 100000
open Go Go.RowKit
def irB (A:Int):Bool:=decide (r1I (A % PP)*r1I (A % PP) % PP=A % PP)
def irV (A:Int):Int:=if irB A=true then fin2 (r1I (A % PP)) else 0
theorem r1I_in (A:Int):0≤r1I A∧r1I A < PP:=by
 have p:(0:Int) < PP:=by decide
 have q:PP≠0:=by decide
 unfold r1I rtR
 split
 ·exact ⟨Int.emod_nonneg _ q,Int.emod_lt_of_pos _ p⟩
 ·exact ⟨Int.emod_nonneg _ q,Int.emod_lt_of_pos _ p⟩
theorem fin2_in {r:Int} (h:0≤r∧r < PP):0≤fin2 r∧fin2 r < PP:=by
 unfold fin2
 split
 ·exact h
 ·exact ⟨Int.emod_nonneg _ (by decide),Int.emod_lt_of_pos _ (by decide)⟩
theorem late_one {md:Region.Mode} {ops:Array Oper} {x j d p:Nat} (h:(match ops[x]? with | some o=>o.after.all (fun e => !Region.binds md e || e.on == p) | none=>true)=true) (hw:waits md ops x j d=true):j=p:=by
  unfold waits at hw
  cases ho:ops[x]? with
  | none=>rw [ho] at hw;simp at hw
  | some o =>
    rw [ho] at hw h
    cases hj:ops[j]? with
    | none=>rw [hj] at hw;simp at hw
    | some oj =>
      rw [hj] at hw
      simp only [Bool.and_eq_true,beq_iff_eq] at hw
      obtain ⟨e,he,hb⟩:=Array.any_eq_true'.1 hw.1
      simp only [Bool.and_eq_true,beq_iff_eq] at hb
      have r:=(Array.all_eq_true_iff_forall_mem.1 h) e he
      rw [hb.1,hb.2] at r
      simpa using r
section
variable {ops : Array Oper} {Q : Exit → Act → World → Prop} {a0 : Act} {w : World} {id : Nat}
theorem region_newN_late (ty:TypeId) (k jA jV pA pV jB pB dB:Nat) (o1 o2:Oper) (F:Nat→Fact) (As:List Int) (b:Value) (hT:textLate .any ops a0.tmps.size k jB=true) (hk1:ops[k]?=some o1) (hk2:ops[k+1]?=some o2) (hd1:o1.dst=none) (hd2:o2.dst=some dB)
  (hop1:o1.op = .store ty (.tmp pA) (.tmp pV)) (hop2:o2.op = .assign (.tmp pB)) (hs:(Tryz.prog.info? ty).map (·.size)=some (5*As.length)) (ha:0 < As.length)
  (qA:decide (jA < k∧jA≠jB)=true) (qV:decide (jV < k∧jV≠jB)=true) (wA:writes ops jA pA=true) (wV:writes ops jV pV=true) (wB:writes ops jB pB=true) (FA:F jA=NB w (5*As.length)) (FV:F jV=EN As) (FB:F jB=Fact.eq b) (hne:dB≠pA) (hnB:pB≠pA) (hz:decide (dB < a0.tmps.size)=true)
  (sx:∀ j d v w w',waits .any ops jB j d=true→(F j).p v w→(F j).p v w') (steps:∀ i,i < k→StepOk Tryz.prog .any ops Q F a0 w i)
  (fin:∀ (vs:Nat→Value) (q:Nat) (W:World),vs pA = .pointer (some ⟨q,0,none⟩)→vs dB=b→w.heap.size≤q→Below w.heap.size w W→RowN W q 0 As→W.there q 0 (5*As.length)→Q .normal (puts vs a0 ops.toList) W) :
  (Code.region id ops true).wp Tryz.prog Q a0 w:=by
 refine region_late k jB F (by kernel_rfl) hT steps o1 o2 hk1 hk2 pB wB (fun a W=>∃ q,a.tmps.getD pA undef = .pointer (some ⟨q,0,none⟩)∧w.heap.size≤q∧Below w.heap.size w W∧RowN W q 0 As∧W.there q 0 (5*As.length)) ?_ sx (fun v u u' h=>by rw [FB] at h ⊢;exact h) ?_ ?_
 ·rintro a W W' v n ⟨q, e, l, hw, r, th⟩
  exact ⟨q,by rw [put_off (by simpa using hnB)];exact e,l,nxt hw n,r.up n,there_up (by omega) th n⟩
 ·intro a W hb hw hF K hK
  have h1:=hF jA pA qA wA
  have h2:=hF jV pV qV wV
  rw [FA] at h1
  rw [FV] at h2
  obtain ⟨_,q,eq,th,hq⟩:=h1
  obtain ⟨es,ev,V⟩:=h2
  refine wp_store_mid ty (.tmp pA) (.tmp pV) hop1 q 0 (clN es).toArray eq ev (by show W.there q 0 (clN es).length;rw [clN_len V];exact th) (by show _=some (clN es).length;rw [clN_len V];exact hs) (clN_one es) ?_
  rw [hd1]
  exact hK _ (below_setCells hq _ _ _ hw) ⟨q,eq,hq,below_setCells hq _ _ _ hw,set_rowN th ha V,World.there_setCells th _ _ _⟩
 ·rintro a W hb ⟨q, eq, hq, hw, r, th⟩ h3
  rw [FB] at h3
  refine wp_assign pB hop2 h3 ?_
  rw [hd2]
  have hb2:Based ops a0 (a.put (some dB) b):=by rw [← hd2];exact hb.put hk2 b
  obtain ⟨vs,hvs⟩:∃ vs:Nat→Value,∀ d,(a.put (some dB) b).tmps.getD d undef=vs d:=⟨_,fun _=>rfl⟩
  rw [puts_late hT rfl hb2 vs hvs]
  refine fin vs q W ?_ ?_ hq hw r th
  ·rw [← hvs, put_off (by simpa using hne)]
   exact eq
  ·rw [← hvs,put_at (by rw [hb.2.1];exact of_decide_eq_true hz)]
end
section
variable {ops : Array Oper} {Q : Exit → Act → World → Prop} {md : Region.Mode} {F : Nat → Fact} {a0 : Act} {w0 : World} {i : Nat} {o : Oper} {ts : Array TypeId}
theorem step_root5 (RR:HasR w0) (hi:ops[i]?=some o) (p j:Nat) (A:Int) (hop:o.op = .call { callee := .value (.func 107),args := #[.tmp p],argTypes:=ts })
  (hj:waits md ops i j p=true) (hFj:F j=EM A) (hFi:F i=TB [irV A] (irB A)):StepOk Tryz.prog md ops Q F a0 w0 i:=by
 refine step_call hi _ _ ts hop (by kernel_rfl) fun a w _ hw hF=>?_
 have ea:=hF j p hj
 rw [hFj] at ea
 obtain ⟨t,e1,L1,V1⟩:=ea
 show Calls Tryz.prog 107 #[a.tmps.getD p undef] w _
 rw [e1]
 refine (root_any w t (Elm.of L1 V1) (RR.up hw)).mono ?_
 rintro r w' ⟨hr,hn⟩
 rw [hFi]
 rw [V1] at hr
 rcases hr with ⟨h1,u,rfl,L,V⟩ | ⟨h1,rfl⟩
 ·have hb : irB A = true := decide_eq_true h1
  refine ⟨_,rfl,hn,[u],by rw [hb];simp [agN,clN,ag5,cl5],⟨L,?_⟩,trivial⟩
  unfold irV
  have k:=fin2_in (r1I_in (A % PP))
  rw [if_pos hb,V,Int.emod_eq_of_lt k.1 k.2]
 ·have hb : irB A = false := decide_eq_false h1
  refine ⟨_,rfl,hn,[z5e],by rw [hb];simp [agN,clN,ag5,cl5],⟨z5e_lm,?_⟩,trivial⟩
  unfold irV
  rw [if_neg (by rw [hb];simp),z5e_val]
  rfl
end
def pwZ (D A:Int):Int:=(A*A - 1)*(A*A*D+1) ^ eInv
def pwX (D A:Int) (odd:Bool):Int:=if odd=true then 0 - irV (pwZ D A) else irV (pwZ D A)
set_option maxHeartbeats 4000000 in
theorem pointWith_any (w:World) (e:Nat→Int) (A:Int) (odd:Bool) (he:Is5 e A) (D:Int) (TT:HasTw w 8) (CC:Em5 w 7 0 D) (SS:HasSt w 13) (II:Has3 w 9 12 5 4) (RR:HasR w) :
    Calls Tryz.prog 85 #[ag5 e,.bool odd] w fun r w'=>∃ es,r = .returned (.tuple #[agN es,.bool (irB (pwZ D A))])∧IsN es [pwX D A odd,A]∧Below w.heap.size w w':=by
  have EY:=em5_new w 83 he
  have m1:Below w.heap.size w (w.alloc (.cells #[.int .u64 (e 0),.int .u64 (e 1),.int .u64 (e 2),.int .u64 (e 3),.int .u64 (e 4)] 83)):=(Below.refl _ _).alloc (Nat.le_refl _) _
  have s1:(w.alloc (.cells #[.int .u64 (e 0),.int .u64 (e 1),.int .u64 (e 2),.int .u64 (e 3),.int .u64 (e 4)] 83)).heap.size=w.heap.size+1:=by simp
  simp only [ag5]
  go_enter Tryz.func85,Tryz.ntmps85
  go_upto_region 1 with fail
  generalize w.alloc (.cells #[.int .u64 (e 0),.int .u64 (e 1),.int .u64 (e 2),.int .u64 (e 3),.int .u64 (e 4)] 83)=wa at *
  have TR:(wa.alloc zA).there wa.heap.size 0 10:=there_new wa _ _
  have mz:Below wa.heap.size wa (wa.alloc zA):=(Below.refl _ _).alloc (Nat.le_refl _) _
  rw [s1] at TR
  have N:=nxt m1 mz
  replace EY:=EY.up mz
  obtain ⟨wr,hwr⟩:∃ W,W=wa.alloc zA:=⟨_,rfl⟩
  rw [← hwr] at TR N EY
  change Code.wp _ _ _ _ (wa.alloc zA)
  rw [← hwr]
  clear hwr m1 mz s1 he
  replace TT:=TT.up N
  replace CC:=CC.up N
  replace SS:=SS.up N
  replace II:=II.up N
  replace RR:=RR.up N
  refine region_new2 5 3 0 6 12 4 2 7 14 _ _ (fun i=>[EM (1),EM (A),EM ((A)*(A)),NB wr 5,NB wr 5].getD i Fact.no) (1) ((A)*(A)) (by kernel_rfl) rfl rfl rfl rfl rfl rfl rfl rfl rfl (by kernel_rfl) (by kernel_rfl) (by kernel_rfl) (by kernel_rfl) rfl rfl rfl rfl (by decide) (fresh_new5 rfl rfl rfl) (fresh_new5 rfl rfl rfl) ?_ ?_
  · intro i hi
    obtain rfl | rfl | rfl | rfl | rfl:i=0∨i=1∨i=2∨i=3∨i=4:=by omega
    · exact step_b5 rfl 1 (by omega) rfl rfl
    · exact step_e5 rfl 2 rfl (by kernel_rfl) _ _ rfl _ EY rfl
    · exact step_sq5 rfl 13 1 _ rfl (by kernel_rfl) rfl rfl
    · exact step_new5 rfl rfl rfl
    · exact step_new5 rfl rfl rfl
  intro vs1 q6 q7 W1 v6 v7 l6 l7 n67 n E6 E7
  replace EY:=EY.up n
  replace TT:=TT.up n
  replace CC:=CC.up n
  replace SS:=SS.up n
  replace II:=II.up n
  replace RR:=RR.up n
  replace TR:=there_up (by omega) TR n
  replace N:=nxt N n
  clear n n67
  obtain ⟨x7,g7⟩:∃ e:Int,e=A*A:=⟨_,rfl⟩
  rw [← g7] at E7
  simp only [puts,v6,v7,Act.put,List.setIfInBounds_toArray,List.set_cons_succ,List.set_cons_zero]
  clear v6 v7
  go_upto_region 2 with fail
  refine region_new2 10 8 2 8 17 9 7 9 22 _ _ (fun i=>[EM (x7),EM (1),EM ((x7) - (1)),EM (x7),EM (D),EM ((x7)*(D)),EM (1),EM (((x7)*(D))+(1)),NB W1 5,NB W1 5].getD i Fact.no) ((x7) - (1)) (((x7)*(D))+(1)) (by kernel_rfl) rfl rfl rfl rfl rfl rfl rfl rfl rfl (by kernel_rfl) (by kernel_rfl) (by kernel_rfl) (by kernel_rfl) rfl rfl rfl rfl (by decide) (fresh_new5 rfl rfl rfl) (fresh_new5 rfl rfl rfl) ?_ ?_
  · intro i hi
    obtain rfl | rfl | rfl | rfl | rfl | rfl | rfl | rfl | rfl | rfl:i=0∨i=1∨i=2∨i=3∨i=4∨i=5∨i=6∨i=7∨i=8∨i=9:=by omega
    · exact step_e5 rfl 7 rfl (by kernel_rfl) _ _ rfl _ E7 rfl
    · exact step_e5 rfl 6 rfl (by kernel_rfl) _ _ rfl _ E6 rfl
    · exact step_sub5 TT rfl 15 16 0 1 _ _ rfl (by kernel_rfl) (by kernel_rfl) rfl rfl rfl
    · exact step_e5 rfl 7 rfl (by kernel_rfl) _ _ rfl _ E7 rfl
    · exact step_gl5 rfl 7 rfl _ CC rfl
    · exact step_mul5 rfl 18 19 3 4 _ _ rfl (by kernel_rfl) (by kernel_rfl) rfl rfl rfl
    · exact step_e5 rfl 6 rfl (by kernel_rfl) _ _ rfl _ E6 rfl
    · exact step_add5 rfl 20 21 5 6 _ _ rfl (by kernel_rfl) (by kernel_rfl) rfl rfl rfl
    · exact step_new5 rfl rfl rfl
    · exact step_new5 rfl rfl rfl
  intro vs2 q8 q9 W2 v8 v9 l8 l9 n89 n E8 E9
  replace EY:=EY.up n
  replace TT:=TT.up n
  replace SS:=SS.up n
  replace II:=II.up n
  replace RR:=RR.up n
  replace TR:=there_up (by omega) TR n
  replace N:=nxt N n
  clear n n89 E6 E7 CC
  obtain ⟨x8,g8⟩:∃ e:Int,e=x7 - 1:=⟨_,rfl⟩
  obtain ⟨x9,g9⟩:∃ e:Int,e=x7*D+1:=⟨_,rfl⟩
  rw [← g8] at E8
  rw [← g9] at E9
  have hZ0:pwZ D A=x8*x9 ^ eInv:=by rw [g8,g9,g7];rfl
  simp only [puts,v8,v9,Act.put,List.setIfInBounds_toArray,List.set_cons_succ,List.set_cons_zero]
  clear v8 v9 g7 g8 g9
  go_upto_region 3 with fail
  refine region_newN_late 83 9 8 6 10 29 7 30 11 _ _ (fun i=>[EM (x8),EM (x9),EM ((x9) ^ eInv),EM ((x8)*((x9) ^ eInv)),TB [irV ((x8)*((x9) ^ eInv))] (irB ((x8)*((x9) ^ eInv))),TB [irV ((x8)*((x9) ^ eInv))] (irB ((x8)*((x9) ^ eInv))),EN [irV ((x8)*((x9) ^ eInv))],Fact.eq (.bool (irB ((x8)*((x9) ^ eInv)))),NB W2 5].getD i Fact.no) [irV ((x8)*((x9) ^ eInv))] (.bool (irB ((x8)*((x9) ^ eInv)))) (by kernel_rfl) rfl rfl rfl rfl rfl rfl i5 (Nat.zero_lt_succ _) rfl rfl (by kernel_rfl) (by kernel_rfl) (by kernel_rfl) rfl rfl rfl (by decide) (by decide) (by kernel_rfl) ?_ ?_ ?_
  · intro j d v u u' hw h
    obtain rfl:j=5:=late_one (by kernel_rfl) hw
    exact h
  · intro i hi
    obtain rfl | rfl | rfl | rfl | rfl | rfl | rfl | rfl | rfl:i=0∨i=1∨i=2∨i=3∨i=4∨i=5∨i=6∨i=7∨i=8:=by omega
    · exact step_e5 rfl 8 rfl (by kernel_rfl) _ _ rfl _ E8 rfl
    · exact step_e5 rfl 9 rfl (by kernel_rfl) _ _ rfl _ E9 rfl
    · exact step_inv5 SS II rfl 25 1 _ rfl (by kernel_rfl) rfl rfl
    · exact step_mul5 rfl 24 26 0 2 _ _ rfl (by kernel_rfl) (by kernel_rfl) rfl rfl rfl
    · exact step_root5 RR rfl 27 3 _ rfl (by kernel_rfl) rfl rfl
    · exact step_move rfl 28 4 (by exact Or.inl rfl) (by kernel_rfl) rfl
    · exact step_tx0 rfl 23 5 _ _ rfl (by kernel_rfl) rfl rfl
    · exact step_tx1 rfl 23 5 _ _ rfl (by kernel_rfl) rfl rfl
    · exact step_new5 rfl rfl rfl
  intro vs3 q10 W3 v10 b11 l10 n R10 T10
  have z3:=there_lt (by omega) TR
  replace EY:=EY.up n
  replace TT:=TT.up n
  replace TR:=there_up (by omega) TR n
  have z2:=N.size
  replace N:=nxt N n
  clear n E8 E9 SS II RR
  have E10:=R10.at0
  clear R10
  obtain ⟨Z,gZ⟩:∃ e:Int,e=x8*x9 ^ eInv:=⟨_,rfl⟩
  rw [← gZ] at b11 E10 hZ0
  have hZ:=hide hZ0
  clear gZ hZ0
  obtain ⟨x10,g10⟩:∃ e:Int,e=irV Z:=⟨_,rfl⟩
  rw [← g10] at E10
  have hW:q10≠w.heap.size∧q10≠w.heap.size+1:=⟨by omega,by omega⟩
  simp only [puts,v10,b11,Act.put,List.setIfInBounds_toArray,List.set_cons_succ,List.set_cons_zero]
  clear v10 b11
  cases odd with
  | false =>
    have hP:=hide (show pwX D A false=x10 by unfold pwX;rw [hZ.out,← g10];rfl)
    clear g10
    obtain ⟨WW,hWW⟩:∃ W,W=W3:=⟨_,rfl⟩
    rw [← hWW] at N TR E10 EY TT T10 ⊢
    clear hWW
    go_upto_region 6 with fail
    refine region_putN_asg 85 4 2 4 36 3 37 5 _ _ (fun i=>[EM (x10),EM (A),EN [x10,A],Fact.eq (.bool (irB Z))].getD i Fact.no) [x10,A] (.bool (irB Z)) _ (by kernel_rfl) rfl rfl rfl rfl rfl rfl iA (Nat.zero_lt_succ _) (by kernel_rfl) rfl TR rfl rfl (by kernel_rfl) (by kernel_rfl) rfl rfl (by kernel_rfl) ?_ ?_
    · intro i hi
      obtain rfl | rfl | rfl | rfl:i=0∨i=1∨i=2∨i=3:=by omega
      · exact step_e5 rfl 10 rfl (by kernel_rfl) _ _ rfl _ E10 rfl
      · exact step_e5 rfl 2 rfl (by kernel_rfl) _ _ rfl _ EY rfl
      · exact step_bA rfl 34 35 0 1 _ _ rfl (by kernel_rfl) (by kernel_rfl) rfl rfl rfl
      · exact step_mv rfl 11 rfl (by kernel_rfl) rfl rfl
    intro vs6 Wa Wb vb na bq RL nb
    have NS:=nb w w.heap.size (nxt N na) (by omega)
    simp only [puts,vb,Act.put,List.setIfInBounds_toArray,List.set_cons_succ,List.set_cons_zero]
    clear vb bq nb na N TR E10 EY
    go_wp2
    obtain ⟨es,rg,_,ht⟩:=RL
    have lz:=clN_len ht
    obtain ⟨fs,hfs⟩:=uA
    exact bodyPost_ret (v := .tuple #[agN es,.bool (irB Z)]) (results_cell_slot Tryz.results85 _ _ (w.heap.size+1) (clN es) _ rfl rfl rg hfs rfl (by rw [lz];exact iA)) rfl ⟨es,by rw [hZ.out],by rw [hP.out];exact ht,NS⟩
  | true =>
    have hP:=hide (show pwX D A true=0 - x10 by unfold pwX;rw [hZ.out,← g10];rfl)
    clear g10
    go_upto_region 5 with fail
    refine region_put5 2 1 10 33 _ (fun i=>[EM (x10),EM (0 - (x10))].getD i Fact.no) (0 - (x10)) _ (by kernel_rfl) rfl rfl rfl (by kernel_rfl) rfl T10 (by kernel_rfl) rfl ?_ ?_
    · intro i hi
      obtain rfl | rfl:i=0∨i=1:=by omega
      · exact step_e5 rfl 10 rfl (by kernel_rfl) _ _ rfl _ E10 rfl
      · exact step_ngl TT rfl 32 0 _ rfl (by kernel_rfl) rfl rfl
    intro vs5 Wx WW n bq E10' nb
    replace EY:=EY.but bq (Ne.symm hW.1)
    replace TR:=there_but (by omega) TR bq (Ne.symm hW.2)
    have N':=nb w w.heap.size (nxt N n) (by omega)
    clear N n bq nb E10 T10
    have N:=N'
    have E10:=E10'
    clear N' E10'
    simp only [puts,Act.put,List.setIfInBounds_toArray,List.set_cons_succ,List.set_cons_zero]
    go_upto_region 6 with fail
    refine region_putN_asg 85 4 2 4 36 3 37 5 _ _ (fun i=>[EM (0 - x10),EM (A),EN [0 - x10,A],Fact.eq (.bool (irB Z))].getD i Fact.no) [0 - x10,A] (.bool (irB Z)) _ (by kernel_rfl) rfl rfl rfl rfl rfl rfl iA (Nat.zero_lt_succ _) (by kernel_rfl) rfl TR rfl rfl (by kernel_rfl) (by kernel_rfl) rfl rfl (by kernel_rfl) ?_ ?_
    · intro i hi
      obtain rfl | rfl | rfl | rfl:i=0∨i=1∨i=2∨i=3:=by omega
      · exact step_e5 rfl 10 rfl (by kernel_rfl) _ _ rfl _ E10 rfl
      · exact step_e5 rfl 2 rfl (by kernel_rfl) _ _ rfl _ EY rfl
      · exact step_bA rfl 34 35 0 1 _ _ rfl (by kernel_rfl) (by kernel_rfl) rfl rfl rfl
      · exact step_mv rfl 11 rfl (by kernel_rfl) rfl rfl
    intro vs6 Wa Wb vb na bq RL nb
    have NS:=nb w w.heap.size (nxt N na) (by omega)
    simp only [puts,vb,Act.put,List.setIfInBounds_toArray,List.set_cons_succ,List.set_cons_zero]
    clear vb bq nb na N TR E10 EY
    go_wp2
    obtain ⟨es,rg,_,ht⟩:=RL
    have lz:=clN_len ht
    obtain ⟨fs,hfs⟩:=uA
    exact bodyPost_ret (v := .tuple #[agN es,.bool (irB Z)]) (results_cell_slot Tryz.results85 _ _ (w.heap.size+1) (clN es) _ rfl rfl rg hfs rfl (by rw [lz];exact iA)) rfl ⟨es,by rw [hZ.out],by rw [hP.out];exact ht,NS⟩
end Go.Proofs.YtnpolopcgmjmnaaGreatDoor
namespace Go.Proofs.YtnpolopcgmjmnaaGreatDoor
set_option maxRecDepth 100000
open Go Go.RowKit
def fmC (W:Nat→Int) (b:Bool):List Value:=[.int .u64 (W 0),.int .u64 (W 1),.int .u64 (W 2),.int .u64 (W 3),.bool b]
def FmV (W:Nat→Int) (b:Bool):Value := .agg (fmC W b).toArray
def FM (v:Int) (b:Bool):Fact:=⟨fun x _=>∃ W,x=FmV W b∧W4 W∧wval W=v,fun _ h=>h⟩
def WF (v:Int):Fact:=⟨fun x _=>∃ W,x=ag4 W∧W4 W∧wval W=v,fun _ h=>h⟩
theorem buFm (W:Nat→Int) (b:Bool) (w:World):(Instr.build 139 #[(0,ag4 W),(1,.bool b)]).run Tryz.prog w = .ok (FmV W b) w:=by kernel_rfl
theorem iF:(Tryz.prog.info? 139).map (·.size)=some 5:=by kernel_rfl
theorem uF:∃ fs,Tryz.prog.underlying 139=some (.struct fs):=⟨_,Tryz.underlying139⟩
theorem fmC_one (W:Nat→Int) (b:Bool):(fmC W b).toArray.all (·.oneCell')=true:=by simp [fmC,Value.oneCell']
section
variable {ops : Array Oper} {Q : Exit → Act → World → Prop} {md : Region.Mode} {F : Nat → Fact} {a0 : Act} {w0 : World} {i : Nat} {o : Oper} {ts : Array TypeId}
theorem step_words (hi:ops[i]?=some o) (p j:Nat) (A:Int) (hop:o.op = .call { callee := .value (.func 110),args := #[.tmp p],argTypes:=ts })
  (hj:waits md ops i j p=true) (hFj:F j=EM A) (hFi:F i=WF (A % PP)):StepOk Tryz.prog md ops Q F a0 w0 i:=by
 refine step_call hi _ _ ts hop (by kernel_rfl) fun a w _ hw hF=>?_
 have ea:=hF j p hj
 rw [hFj] at ea
 obtain ⟨t,e1,L1,V1⟩:=ea
 show Calls Tryz.prog 110 #[a.tmps.getD p undef] w _
 rw [e1]
 refine (words_any w t L1).mono ?_
 rintro r w' ⟨rfl,hn⟩
 rw [hFi]
 have k:=lw_ok L1
 exact ⟨_,rfl,hn,lw t,rfl,k.2,k.1.trans V1⟩
theorem step_even (hi:ops[i]?=some o) (p j:Nat) (A:Int) (hop:o.op = .call { callee := .value (.func 111),args := #[.tmp p],argTypes:=ts })
  (hj:waits md ops i j p=true) (hFj:F j=EM A) (hFi:F i=Fact.eq (.bool (decide (A % PP % 2=0)))):StepOk Tryz.prog md ops Q F a0 w0 i:=by
 refine step_call hi _ _ ts hop (by kernel_rfl) fun a w _ hw hF=>?_
 have ea:=hF j p hj
 rw [hFj] at ea
 obtain ⟨t,e1,L1,V1⟩:=ea
 show Calls Tryz.prog 111 #[a.tmps.getD p undef] w _
 rw [e1]
 refine (isEven_any w t L1).mono ?_
 rintro r w' ⟨rfl,hn⟩
 rw [hFi,V1]
 exact ⟨_,rfl,hn,rfl⟩
theorem step_bF (hi:ops[i]?=some o) (p q j k:Nat) (v:Int) (b:Bool) (hop:o.op = .build 139 #[(0,.tmp p),(1,.tmp q)])
  (hj:waits md ops i j p=true) (hk:waits md ops i k q=true) (hFj:F j=WF v) (hFk:F k=Fact.eq (.bool b)) (hFi:F i=FM v b):StepOk Tryz.prog md ops Q F a0 w0 i:=by
 refine step_pure hi fun a w _ _ hf=>?_
 have h1:=hf j p hj
 have h2:=hf k q hk
 rw [hFj] at h1
 rw [hFk] at h2
 obtain ⟨W,e1,X⟩:=h1
 refine ⟨FmV W b,?_,by rw [hFi];exact ⟨W,rfl,X⟩⟩
 have g1:a.eval (.tmp p)=ag4 W:=e1
 have g2:a.eval (.tmp q) = .bool b:=h2
 have g:(#[(0,Operand.tmp p),(1,Operand.tmp q)].map fun (n,x)=>(n,a.eval x)) = #[(0,ag4 W),(1,.bool b)]:=by simp [g1,g2]
 simp only [execOp,hop,g]
 rw [Sem.run_bind,buFm]
 rfl
end
section
variable {ops : Array Oper} {Q : Exit → Act → World → Prop} {a0 : Act} {w : World} {id : Nat} {draw : Bool}
theorem region_putF (k jV pD pV:Nat) (o:Oper) (F:Nat→Fact) (v:Int) (b:Bool) (q:Nat) (hT:textOk .any ops a0.tmps.size k=true) (hk:ops[k]?=some o) (hd:o.dst=none) (hop:o.op = .store 139 (.tmp pD) (.tmp pV))
  (hp:apart ops pD=true) (h0:a0.tmps.getD pD undef = .pointer (some ⟨q,0,none⟩)) (ht:w.there q 0 5) (wV:writes ops jV pV=true) (FV:F jV=FM v b) (steps:∀ i,i < k→StepOk Tryz.prog .any ops Q F a0 w i)
  (fin:∀ (vs:Nat→Value) (W W':World) (u:Nat→Int),Below w.heap.size w W→W'.rangeAt q 0 (fmC u b)→W4 u→wval u=v→(∀ (w1:World) (B:Nat),Below B w1 W→B≤q→Below B w1 W')→Q .normal (puts vs a0 ops.toList) W') :
  (Code.region id ops draw).wp Tryz.prog Q a0 w:=by
 refine region_store k o F (by kernel_rfl) hT hk hd steps fun a W hb hw hF=>?_
 have h2:=hF jV pV wV
 rw [FV] at h2
 obtain ⟨u,ev,hu,hv⟩:=h2
 have th:=there_up (by omega) ht hw
 refine wp_store_mid 139 (.tmp pD) (.tmp pV) hop q 0 (fmC u b).toArray ((based_at hb pD hp).trans h0) ev th iF (fmC_one u b) ?_
 obtain ⟨vs,hvs⟩:∃ vs:Nat→Value,∀ d,a.tmps.getD d undef=vs d:=⟨_,fun _=>rfl⟩
 rw [hd]
 show Q .normal a _
 rw [puts_of hT rfl hb vs hvs]
 exact fin vs W _ u hw (World.rangeAt_setCells_same W q 0 _ th) hu hv (fun w1 B n hB=>below_setCells hB _ _ _ n)
end
abbrev zF:Obj := .cells #[.int .u64 0,.int .u64 0,.int .u64 0,.int .u64 0,.bool false] 139
set_option maxHeartbeats 2000000 in
theorem form_any (w:World) (es:List (Nat→Int)) (X Y:Int) (hes:IsN es [X,Y]) :
  Calls Tryz.prog 87 #[agN es] w fun r w'=>∃ u,r = .returned (FmV u (!decide (X % PP % 2=0)))∧W4 u∧wval u=Y % PP∧Below w.heap.size w w':=by
 show Calls Tryz.prog 87 #[.agg (clN es).toArray] w _
 have H0:=rowN_new w 85 hes
 have m0:Below w.heap.size w (w.alloc (.cells (clN es).toArray 85)):=(Below.refl _ _).alloc (Nat.le_refl _) _
 have s0:(w.alloc (.cells (clN es).toArray 85)).heap.size=w.heap.size+1:=by simp
 obtain ⟨V0,hV0⟩:∃ V,V=(clN es).toArray:=⟨_,rfl⟩
 rw [← hV0] at H0 m0 s0 ⊢
 clear hV0 hes
 go_enter Tryz.func87,Tryz.ntmps87
 go_upto_region 1 with fail
 generalize w.alloc (.cells V0 85)=wa0 at *
 have TR:(wa0.alloc zF).there wa0.heap.size 0 5:=there_new wa0 _ _
 have mz:Below wa0.heap.size wa0 (wa0.alloc zF):=(Below.refl _ _).alloc (Nat.le_refl _) _
 rw [s0] at TR
 have P0:=H0.up mz
 have N:=nxt m0 mz
 clear H0 m0 s0 mz
 obtain ⟨wr,hwr⟩:∃ W,W=wa0.alloc zF:=⟨_,rfl⟩
 rw [← hwr] at TR N P0
 change Code.wp _ _ _ _ (wa0.alloc zF)
 rw [← hwr]
 clear hwr
 refine region_putF 8 7 2 10 _ (fun i=>[Fact.eq (.pointer (some ⟨w.heap.size,5,none⟩)),EM (Y),WF (Y % PP),Fact.eq (.pointer (some ⟨w.heap.size,0,none⟩)),EM (X),Fact.eq (.bool (decide (X % PP % 2=0))),Fact.eq (.bool (!(decide (X % PP % 2=0)))),FM (Y % PP) (!decide (X % PP % 2=0))].getD i Fact.no) (Y % PP) (!decide (X % PP % 2=0)) _ (by kernel_rfl) rfl rfl rfl (by kernel_rfl) rfl TR (by kernel_rfl) rfl ?_ ?_
 ·intro i hi
  obtain rfl | rfl | rfl | rfl | rfl | rfl | rfl | rfl:i=0∨i=1∨i=2∨i=3∨i=4∨i=5∨i=6∨i=7:=by omega
  ·exact step_fld rfl 85 1 1 rfl (by kernel_rfl) _ _ rfl (fyA _) rfl
  ·exact step_e5f rfl 3 0 rfl (by kernel_rfl) _ _ rfl _ P0.tail.at0 rfl
  ·exact step_words rfl 4 1 _ rfl (by kernel_rfl) rfl rfl
  ·exact step_fld rfl 85 1 0 rfl (by kernel_rfl) _ _ rfl (fxA _) rfl
  ·exact step_e5f rfl 6 3 rfl (by kernel_rfl) _ _ rfl _ P0.at0 rfl
  ·exact step_even rfl 7 4 _ rfl (by kernel_rfl) rfl rfl
  ·exact step_notb rfl 8 5 rfl (by kernel_rfl) rfl rfl
  ·exact step_bF rfl 5 9 2 6 _ _ rfl (by kernel_rfl) (by kernel_rfl) rfl rfl rfl
 intro vs W W' u n rg hu hv nb
 have z:=N.size
 have NS:=nb w w.heap.size (nxt N n) (by omega)
 simp only [puts,Act.put,List.setIfInBounds_toArray,List.set_cons_succ,List.set_cons_zero]
 clear n nb N TR P0
 obtain ⟨fs,hfs⟩:=uF
 go_wp2
 exact bodyPost_ret (v:=FmV u (!decide (X % PP % 2=0))) (results_cell_mid Tryz.results87 _ _ (w.heap.size+1) (fmC u _) _ rfl rg hfs rfl iF) rfl ⟨u,rfl,hu,hv,NS⟩
def loW (u:Nat→Int) (j:Nat):Int:=if j=3 then u 3 % 9223372036854775808 else u j
theorem and63 (x : Int) (h0 : 0 ≤ x) (h1 : x < 18446744073709551616) : bits BinOp.and IntKind.u64 x 9223372036854775808 = if 9223372036854775808 ≤ x then 9223372036854775808 else 0 := by
 obtain ⟨m,rfl⟩:=Int.eq_ofNat_of_zero_le h0
 have h:=bits_and_u64_nat m 9223372036854775808 (by omega) (by omega)
 have e:m &&& 9223372036854775808=if 9223372036854775808≤m then 9223372036854775808 else 0:=by
  have k:(9223372036854775808:Nat)=2 ^ 63:=by decide
  have hm:m < 2 ^ 64:=by omega
  rw [k]
  apply Nat.eq_of_testBit_eq
  intro i
  rw [Nat.testBit_and,Nat.testBit_two_pow]
  by_cases c:2 ^ 63≤m
  ·rw [if_pos c, Nat.testBit_two_pow]
   by_cases d:63=i
   ·subst d
    have:m / 2 ^ 63=1:=by omega
    rw [Nat.testBit_eq_decide_div_mod_eq,this]
    simp
   ·simp [d]
  ·rw [if_neg c, Nat.zero_testBit]
   by_cases d:63=i
   ·subst d
    have:m / 2 ^ 63=0:=by omega
    rw [Nat.testBit_eq_decide_div_mod_eq,this]
    simp
   ·simp [d]
 rw [e] at h
 refine (by simpa using h:_=_).trans ?_
 by_cases c:9223372036854775808≤m
 ·rw [if_pos c, if_pos (by omega)]
  rfl
 ·rw [if_neg c, if_neg (by omega)]
  rfl
set_option maxHeartbeats 4000000 in
theorem readForm_any (w:World) (g:Nat) (a:Option Addr) (cap:Nat) (xs:List Int) (hr:Rd w g a .u8 xs) (hb:Byt xs) (hl:xs.length=32) :
  Calls Tryz.prog 84 #[.slice a 32 cap] w fun r w'=>∃ u,r = .returned (FmV (loW u) (decide (9223372036854775808≤u 3)))∧W4 u∧u=wv (fun j=>xs.getD j 0) 32∧Below w.heap.size w w':=by
 have al1:Below w.heap.size w (w.alloc zF):=(Below.refl _ _).alloc (Nat.le_refl _) _
 have s1:(w.alloc zF).heap.size=w.heap.size+1:=by simp
 have TR:(w.alloc zF).there w.heap.size 0 5:=there_new w _ _
 have RW':=hide (fun w' n=>readWords_any w' g a cap xs (hr.up n) hb hl)
 have hW:W4 (wv (fun j=>xs.getD j 0) 32):=fun j _=>wv_lt hb 32 j
 clear hl
 go_enter Tryz.func84,Tryz.ntmps84
 go_wp2_with fail
 change Calls _ _ _ (w.alloc zF) _
 generalize w.alloc zF=wa at *
 refine (RW'.out wa al1).mono ?_
 rintro r w1 ⟨rfl,n1⟩
 obtain ⟨u,hu⟩:∃ u,u=wv (fun j=>xs.getD j 0) 32:=⟨_,rfl⟩
 rw [← hu] at hW ⊢
 have hU:=hide hu
 clear hu RW' hr hb
 have b3:=hW 3 (by omega)
 have e1:=and63 (u 3) b3.1 b3.2
 have e2:=and_not63 (u 3) b3.1 b3.2
 have N:=nxt al1 n1
 replace TR:=there_up (by omega) TR n1
 have z1:=N.size
 have z2:=there_lt (by omega) TR
 clear n1 al1 s1
 obtain ⟨x0,c0⟩:=Option.isSome_iff_exists.1 (TR 0 (by omega)).1
 obtain ⟨x1,c1⟩:=Option.isSome_iff_exists.1 (TR 1 (by omega)).1
 obtain ⟨x2,c2⟩:=Option.isSome_iff_exists.1 (TR 2 (by omega)).1
 obtain ⟨x3,c3⟩:=Option.isSome_iff_exists.1 (TR 3 (by omega)).1
 obtain ⟨x4,c4⟩:=Option.isSome_iff_exists.1 (TR 4 (by omega)).1
 have f0:=(TR 0 (by omega)).2
 have f1:=(TR 1 (by omega)).2
 have f2:=(TR 2 (by omega)).2
 have f3:=(TR 3 (by omega)).2
 have f4:=(TR 4 (by omega)).2
 simp only [Nat.zero_add] at c0 c1 c2 c3 c4 f0 f1 f2 f3 f4
 obtain ⟨fs,hfs⟩:=uF
 have RG:∀ (b:Bool) (ob:Obj),((w1.setCells w.heap.size 0 (fmC (loW u) b)).alloc ob).rangeAt w.heap.size 0 (fmC (loW u) b):=fun b ob j v hv=>by
  have rg:=World.rangeAt_setCells_same w1 w.heap.size 0 (fmC (loW u) b) TR
  have n:Below (w1.setCells w.heap.size 0 (fmC (loW u) b)).heap.size (w1.setCells w.heap.size 0 (fmC (loW u) b)) ((w1.setCells w.heap.size 0 (fmC (loW u) b)).alloc ob):=(Below.refl _ _).alloc (Nat.le_refl _) _
  exact (n.cell (p:=⟨w.heap.size,0+j,none⟩) (by rw [heap_size_setCells];exact z2)).trans (rg j v hv)
 have RG':=hide RG
 clear TR RG
 by_cases c:9223372036854775808≤u 3
 ·have D := hide (decide_eq_true c)
  simp only [c,if_true] at e1
  simp only [ag4]
  go_wp2
  exact bodyPost_ret (v:=FmV (loW u) true) (results_cell_mid Tryz.results84 _ _ w.heap.size (fmC (loW u) true) _ rfl (RG'.out true _) hfs rfl iF) rfl ⟨u,by rw [D.out],hW,hU.out,(below_set5 N (Nat.le_refl _) _ _ _ _ _).alloc (by simp;omega) _⟩
 ·have D := hide (decide_eq_false c)
  simp only [c,if_false] at e1
  simp only [ag4]
  go_wp2
  exact bodyPost_ret (v:=FmV (loW u) false) (results_cell_mid Tryz.results84 _ _ w.heap.size (fmC (loW u) false) _ rfl (RG'.out false _) hfs rfl iF) rfl ⟨u,by rw [D.out],hW,hU.out,(below_set5 N (Nat.le_refl _) _ _ _ _ _).alloc (by simp;omega) _⟩
end Go.Proofs.YtnpolopcgmjmnaaGreatDoor
namespace Go.Proofs.YtnpolopcgmjmnaaGreatDoor
set_option maxRecDepth 100000
open Go Go.RowKit
section
variable {ops : Array Oper} {Q : Exit → Act → World → Prop} {md : Region.Mode} {F : Nat → Fact} {a0 : Act} {w0 : World} {i : Nat} {o : Oper} {ts : Array TypeId}
theorem step_form (hi:ops[i]?=some o) (p j:Nat) (X Y:Int) (hop:o.op = .call { callee := .value (.func 87),args := #[.tmp p],argTypes:=ts })
  (hj:waits md ops i j p=true) (hFj:F j=EN [X,Y]) (hFi:F i=FM (Y % PP) (!decide (X % PP % 2=0))):StepOk Tryz.prog md ops Q F a0 w0 i:=by
 refine step_call hi _ _ ts hop (by kernel_rfl) fun a w _ hw hF=>?_
 have ea:=hF j p hj
 rw [hFj] at ea
 obtain ⟨t,e1,L1⟩:=ea
 show Calls Tryz.prog 87 #[a.tmps.getD p undef] w _
 rw [e1]
 refine (form_any w t X Y L1).mono ?_
 rintro r w' ⟨u,rfl,h1,h2,hn⟩
 rw [hFi]
 exact ⟨_,rfl,hn,u,rfl,h1,h2⟩
end
end Go.Proofs.YtnpolopcgmjmnaaGreatDoor
namespace Go.Proofs.YtnpolopcgmjmnaaGreatDoor
set_option maxRecDepth 100000
open Go Go.RowKit
section
variable {P : Program} {ops : Array Oper} {Q : Exit → Act → World → Prop} {md : Region.Mode} {F : Nat → Fact} {a0 : Act} {w0 : World}
def textEnd (md : Region.Mode) (ops : Array Oper) (n : Nat) : Bool :=
  (ops.all fun o=>match o.dst with | some d=>decide (d < n) | none=>true)
  && ((List.range ops.size).all fun i=>match ops[i]? with
    | some o => o.after.all (fun e => !Region.binds md e || decide (e.on < i)) && (List.range i).all fun j => match ops[j]? with
      | some x=>x.dst.isNone || o.dst != x.dst
      | none=>true
    | none=>true)
structure TextE (md:Region.Mode) (ops:Array Oper) (n:Nat):Prop where
 d:∀ (i:Nat) o d,ops[i]?=some o→o.dst=some d→d < n
 a:∀ (i:Nat) o,ops[i]?=some o→∀ e ∈ o.after,Region.binds md e=true→e.on < i
 x:∀ (i j:Nat) o o' d,ops[i]?=some o→ops[j]?=some o'→i≠j→o.dst=some d→o'.dst≠some d
theorem textE_of {n:Nat} (h:textEnd md ops n=true):TextE md ops n:=by
 unfold textEnd at h
 simp only [Bool.and_eq_true] at h
 obtain ⟨h1,h2⟩:=h
 rw [Array.all_eq_true_iff_forall_mem] at h1
 rw [List.all_eq_true] at h2
 have H:∀ (i j:Nat) o o' d,j < i→ops[i]?=some o→ops[j]?=some o'→o.dst=some d→o'.dst≠some d:=by
  intro i j o o' d hij hi hj hd hd'
  have q:=h2 i (List.mem_range.2 (Array.getElem?_eq_some_iff.1 hi).1)
  simp only [hi,Bool.and_eq_true] at q
  have r:=List.all_eq_true.1 q.2 j (List.mem_range.2 hij)
  simp only [hj,hd,hd'] at r
  simp at r
 refine ⟨?_,?_,?_⟩
 ·intro i o d ho hd
  have q:=h1 o (Array.mem_of_getElem? ho)
  simpa [hd] using q
 ·intro i o ho e he hb
  have q:=h2 i (List.mem_range.2 (Array.getElem?_eq_some_iff.1 ho).1)
  simp only [ho,Bool.and_eq_true] at q
  have r:=(Array.all_eq_true_iff_forall_mem.1 q.1) e he
  rw [hb] at r
  simpa using r
 ·intro i j o o' d hi hj hij hd hd'
  rcases Nat.lt_or_gt_of_ne hij with h | h
  ·exact H j i o' o d h hj hi hd' hd
  ·exact H i j o o' d h hi hj hd hd'
theorem Held.nextE {n : Nat} (T : TextE md ops n) (hn : n ≤ a0.tmps.size) {listed : Array Bool} {a : Act} {w : World} (H : Held md ops F a0 w0 listed a w) {i : Nat} {o : Oper} (ho : ops[i]? = some o) (hr : i ∈ Region.ready md ops listed)
  {v:Value} {w':World} (hw:Below w.heap.size w w') (hf:(F i).p v w'):Held md ops F a0 w0 (listed.setIfInBounds i true) (a.put o.dst v) w':=by
 have hi:i < ops.size:=(Array.getElem?_eq_some_iff.1 ho).1
 have hz:a.tmps.size=a0.tmps.size:=H.b.2.1
 refine ⟨⟨by rw [put_defers];exact H.b.1,by rw [put_size];exact hz,fun d hd=>?_⟩,nxt H.n hw,?_,?_,by simp [H.s]⟩
 ·rw [put_off]
  ·exact H.b.2.2 d hd
  ·have q := Array.all_eq_true_iff_forall_mem.1 hd o (Array.mem_of_getElem? ho)
   simpa using q
 ·intro j oj d hoj hj hd
  by_cases e:i=j
  ·subst e
   obtain rfl:=Option.some.inj (ho.symm.trans hoj)
   rw [hd,put_at (Nat.lt_of_lt_of_le (T.d i o d ho hd) (hz ▸ hn))]
   exact hf
  ·rw [getD_off e] at hj
   rw [put_off (T.x j i oj o d hoj ho (Ne.symm e) hd)]
   exact (F j).up hw (H.f j oj d hoj hj hd)
 ·intro j oj hoj hj e he hb
  obtain ⟨_,o',ho',q⟩:=mem_ready.1 hr
  by_cases c:i=e.on
  ·rw [← c]
   exact getD_same (by rw [H.s];exact hi) _
  ·rw [getD_off c]
   by_cases e':i=j
   ·subst e'
    obtain rfl:=Option.some.inj (ho'.symm.trans hoj)
    exact q e he hb
   ·rw [getD_off e'] at hj
    exact H.c j oj hoj hj e he hb
theorem any_end {n : Nat} (T : TextE md ops n) (hn : n ≤ a0.tmps.size) (steps : ∀ i, i < ops.size → StepOk P md ops Q F a0 w0 i)
    (hg:∀ i o,ops[i]?=some o→∀ (a:Act) (w:World),(∀ j d,waits md ops i j d=true→(F j).p (a.tmps.getD d undef) w)→Region.wanted o (yielded ops a.tmps)=true)
    (fin:∀ a w,Based ops a0 a→Below w0.heap.size w0 w→(∀ i o d,ops[i]?=some o→o.dst=some d→(F i).p (a.tmps.getD d undef) w)→Q .normal a w) :
    ∀ (fuel:Nat) (listed:Array Bool) (a:Act) (w:World),left listed ops.size≤fuel→Held md ops F a0 w0 listed a w→wpAny P md ops Q fuel listed a w:=by
  have done:∀ (fuel:Nat) (listed:Array Bool) (a:Act) (w:World),Held md ops F a0 w0 listed a w→(∀ i,i < ops.size→listed.getD i false=true)→wpAny P md ops Q fuel listed a w:=by
    intro fuel listed a w H hall
    refine wpAny_done ?_ (fin a w H.b H.n (fun i o d ho hd=>H.f i o d ho (hall i (Array.getElem?_eq_some_iff.1 ho).1) hd)) fuel
    cases hr:Region.ready md ops listed with
    | nil=>rfl
    | cons i t =>
      exfalso
      have hi:i ∈ Region.ready md ops listed:=by rw [hr];simp
      obtain ⟨h0,o,ho,_⟩:=mem_ready.1 hi
      have hlt:=(Array.getElem?_eq_some_iff.1 ho).1
      rw [dflt (by rw [H.s];exact hlt),hall i hlt] at h0
      simp at h0
  intro fuel
  induction fuel with
  | zero =>
    intro listed a w hl H
    exact done 0 listed a w H fun i hi=>by
      rw [← dflt (by rw [H.s];exact hi)]
      exact left_zero (n:=ops.size) (by omega) i hi
  | succ fuel ih =>
    intro listed a w hl H
    by_cases hall:∀ i,i < ops.size→listed.getD i false=true
    · exact done _ listed a w H hall
    · refine ⟨fun hr => ?_, fun i hi => ?_⟩
      · exfalso
        refine hall fun j hj=>?_
        have:∀ m i,i < m→i < ops.size→listed.getD i false=true:=by
          intro m
          induction m with
          | zero=>intro i hi;omega
          | succ m ihm =>
            intro i hi hik
            rcases Nat.lt_or_ge i m with h1 | h1
            · exact ihm i h1 hik
            · obtain rfl : i = m := by omega
              cases hc:listed.getD i false
              · exfalso
                obtain ⟨o,ho⟩:∃ o,ops[i]?=some o:=⟨ops[i],by simp [hik]⟩
                have hr':i ∈ Region.ready md ops listed:=mem_ready.2 ⟨by rw [dflt (by rw [H.s];omega)];exact hc,o,ho,fun e he hb=>ihm e.on (T.a i o ho e he hb) (by have:=T.a i o ho e he hb;omega)⟩
                rw [hr] at hr'
                simp at hr'
              · rfl
        exact this (j+1) j (by omega) hj
      · obtain ⟨h0, o, ho, hready⟩ := mem_ready.1 hi
        have hlt:=(Array.getElem?_eq_some_iff.1 ho).1
        have hfacts:∀ j d,waits md ops i j d=true→(F j).p (a.tmps.getD d undef) w:=by
          intro j d hjd
          unfold waits at hjd
          rw [ho] at hjd
          cases hoj:ops[j]? with
          | none=>rw [hoj] at hjd;simp at hjd
          | some oj =>
            rw [hoj] at hjd
            simp only [Bool.and_eq_true,beq_iff_eq] at hjd
            obtain ⟨e,he,hb⟩:=Array.any_eq_true'.1 hjd.1
            simp only [Bool.and_eq_true,beq_iff_eq] at hb
            exact H.f j oj d hoj (by rw [← hb.2];exact hready e he hb.1) hjd.2
        have hwant:=hg i o ho a w hfacts
        refine wpOp_step ho fun K' hK=>?_
        rw [if_pos hwant]
        have hll:=left_set (by rw [H.s];exact hlt) h0 ops.size hlt
        refine steps i hlt o ho a w H.b H.n hfacts K' fun v w' hw hf=>?_
        exact hK _ _ (ih _ _ _ (by omega) (H.nextE T hn ho hi hw hf))
theorem region_guard {id:Nat} {w:World} (F:Nat→Fact) (hm:P.follows .mixedOrders=true) (hT:textEnd .any ops a0.tmps.size=true) (steps:∀ i,i < ops.size→StepOk P .any ops Q F a0 w i)
  (hg:∀ i o,ops[i]?=some o→∀ (a:Act) (w:World),(∀ j d,waits .any ops i j d=true→(F j).p (a.tmps.getD d undef) w)→Region.wanted o (yielded ops a.tmps)=true)
  (fin:∀ a W,Based ops a0 a→Below w.heap.size w W→(∀ i d,writes ops i d=true→(F i).p (a.tmps.getD d undef) W)→Q .normal a W):(Code.region id ops true).wp P Q a0 w:=by
 have T:=textE_of hT
 have z:∀ j,(Array.replicate ops.size false).getD j false=false:=fun j=>by
  rw [Array.getD_eq_getD_getElem?,Array.getElem?_replicate]
  split <;> rfl
 refine wp_region_any hm ?_
 refine any_end (w0:=w) T (Nat.le_refl _) steps hg (fun a W hb hw hf=>fin a W hb hw (fun i d hd=>?_)) ops.size _ a0 _ ?_ ⟨⟨rfl,rfl,fun _ _=>rfl⟩,(Below.refl _ _).drew,?_,?_,by simp⟩
 ·obtain ⟨o, ho, hd'⟩ := writes_is hd
  exact hf i o d ho hd'
 ·have : ∀ m, left (Array.replicate ops.size false) m ≤ m := by
   intro m
   induction m with
   | zero=>exact Nat.le_refl _
   | succ m ih=>unfold left;split <;> omega
  exact this _
 ·intro i o d ho hl _
  rw [z] at hl
  simp at hl
 ·intro i o ho hl
  rw [z] at hl
  simp at hl
theorem wanted_none {o:Oper} {a:Act} (h:o.guard=none):Region.wanted o (yielded ops a.tmps)=true:=by simp [Region.wanted,h]
theorem wanted_some {o:Oper} {a:Act} {g d:Nat} {v:Bool} (h:o.guard=some (g,v)) (hd:writes ops g d=true) (e:a.tmps.getD d undef = .bool v):Region.wanted o (yielded ops a.tmps)=true:=by
 obtain ⟨og,ho,hd'⟩:=writes_is hd
 have e1:a.tmps[d]?=some (.bool v):=by
  rw [Array.getD_eq_getD_getElem?] at e
  cases hq:a.tmps[d]? with
  | none=>rw [hq] at e;simp [undef] at e
  | some x=>rw [hq] at e;simpa using e
 simp [Region.wanted,h,yielded,ho,hd',e1]
theorem puts_guard {n : Nat} (hT : textEnd md ops n = true) (hn : n = a0.tmps.size) {a : Act} (hb : Based ops a0 a) (vs : Nat → Value) (hv : ∀ d, a.tmps.getD d undef = vs d) : a = puts vs a0 ops.toList := by
 have T:=textE_of hT
 have hin:∀ o ∈ ops.toList,∀ e,o.dst=some e→e < a0.tmps.size:=fun o ho e he=>by
  obtain ⟨i,hi⟩:=List.getElem?_of_mem ho
  have:=T.d i o e (by simpa using hi) he
  rw [hn] at this
  exact this
 obtain ⟨s1,s2⟩:=puts_size vs ops.toList a0
 obtain ⟨ta,da⟩:=a
 obtain ⟨h1,h2,h3⟩:=hb
 have e1:ta=(puts vs a0 ops.toList).tmps:=by
  apply Array.ext
  ·rw [s1];exact h2
  ·intro i hi hi'
   have g:=puts_get vs i ops.toList a0 hin
   have l:ta[i]=ta.getD i undef:=by simp [Array.getD_eq_getD_getElem?,hi]
   have r:(puts vs a0 ops.toList).tmps[i]=(puts vs a0 ops.toList).tmps.getD i undef:=by simp only [Array.getD_eq_getD_getElem?,Array.getElem?_eq_getElem hi',Option.getD_some]
   rw [l,r,g]
   by_cases c:ops.toList.any (fun o=>o.dst == some i)=true
   ·rw [if_pos c];exact hv i
   ·rw [if_neg c]
    refine h3 i ?_
    unfold apart
    rw [Array.all_eq_true_iff_forall_mem]
    intro o ho
    have hne:¬ (o.dst == some i)=true:=fun x=>c (List.any_eq_true.2 ⟨o,by simpa using ho,x⟩)
    simpa using hne
 have e2:da=(puts vs a0 ops.toList).defers:=h1.trans s2.symm
 subst e1
 subst e2
 rfl
end
end Go.Proofs.YtnpolopcgmjmnaaGreatDoor
namespace Go.Proofs.YtnpolopcgmjmnaaGreatDoor
set_option maxRecDepth 100000
open Go Go.RowKit
theorem foF (q:Nat) (w:World):(Instr.fieldAt 139 (.pointer (some ⟨q,0,none⟩)) 1).run Tryz.prog w = .ok (.pointer (some ⟨q,4,none⟩)) w:=by kernel_rfl
set_option maxHeartbeats 4000000 in
theorem eqW9 (a0 a1 a2 a3 b0 b1 b2 b3:Int) (w:World) :
  (Op.equalIn 9999 86 (.agg #[.int .u64 a0,.int .u64 a1,.int .u64 a2,.int .u64 a3]) (.agg #[.int .u64 b0,.int .u64 b1,.int .u64 b2,.int .u64 b3])).run Tryz.prog w = .ok (a0 == b0 && a1 == b1 && a2 == b2 && a3 == b3) w:=by
 have u3:=Tryz.underlying65
 have a3':=Tryz.isAgg65
 have z3:=Tryz.sizeOf65
 rw [show (9999:Nat)=9998+1 from rfl,Op.equalIn]
 simp only [Sem.run_bind,run_underlying Tryz.underlying86,Result.andThen_ok]
 simp only [Std.Legacy.Range.forIn_eq_forIn_range',Std.Legacy.Range.size,Nat.sub_zero,Nat.add_sub_cancel,Nat.div_one,List.range'_succ,List.range'_zero,List.forIn_cons,List.forIn_nil]
 go_simp
 by_cases h0:a0=b0 <;> by_cases h1:a1=b1 <;> by_cases h2:a2=b2 <;> by_cases h3:a3=b3 <;> simp [h0,h1,h2,h3]
theorem eqB9 (p q:Bool) (w:World):(Op.equalIn 9999 4 (.bool p) (.bool q)).run Tryz.prog w = .ok (p == q) w:=by kernel_rfl
theorem partY (a0 a1 a2 a3:Int) (p:Bool) (w:World):(part 86 #[.int .u64 a0,.int .u64 a1,.int .u64 a2,.int .u64 a3,.bool p] 0).run Tryz.prog w = .ok (.agg #[.int .u64 a0,.int .u64 a1,.int .u64 a2,.int .u64 a3]) w:=by kernel_rfl
theorem partB (a0 a1 a2 a3:Int) (p:Bool) (w:World):(part 4 #[.int .u64 a0,.int .u64 a1,.int .u64 a2,.int .u64 a3,.bool p] 4).run Tryz.prog w = .ok (.bool p) w:=by kernel_rfl
set_option maxHeartbeats 4000000 in
theorem eqForm (a0 a1 a2 a3 b0 b1 b2 b3:Int) (p q:Bool) (w:World) :
  (Op.equalIn 10000 139 (.agg #[.int .u64 a0,.int .u64 a1,.int .u64 a2,.int .u64 a3,.bool p]) (.agg #[.int .u64 b0,.int .u64 b1,.int .u64 b2,.int .u64 b3,.bool q])).run Tryz.prog w = .ok ((a0 == b0 && a1 == b1 && a2 == b2 && a3 == b3) && p == q) w:=by
 have hs:Tryz.prog.stoodInHeld 139=false:=by kernel_rfl
 rw [show (10000:Nat)=9999+1 from rfl,Op.equalIn]
 simp only [Sem.run_bind,run_underlying Tryz.underlying139,Result.andThen_ok]
 cases h:(a0 == b0 && a1 == b1 && a2 == b2 && a3 == b3)
 ·simp [hs,partY,partB,eqW9,eqB9,h]
 ·cases k:(p == q) <;> simp [hs,partY,partB,eqW9,eqB9,h,k]
section
variable {ops : Array Oper} {Q : Exit → Act → World → Prop} {md : Region.Mode} {F : Nat → Fact} {a0 : Act} {w0 : World} {i : Nat} {o : Oper} {ts : Array TypeId}
theorem step_rc (hi:ops[i]?=some o) (p j:Nat) {a:Option Addr} {c:Nat} {xs:List Int} (hop:o.op = .call { callee := .value (.func 86),args := #[.tmp p],argTypes:=ts })
  (hj:waits md ops i j p=true) (hO:OfOk w0 a xs) (hFj:F j=Fact.eq (.slice a 32 c)) (hFi:F i=EM (num (low7 xs))):StepOk Tryz.prog md ops Q F a0 w0 i:=by
 obtain ⟨g,hr,hb,hl⟩:=hO
 refine step_call hi _ _ ts hop (by kernel_rfl) fun A w _ hw hF=>?_
 have ea:=hF j p hj
 rw [hFj] at ea
 show Calls Tryz.prog 86 #[A.tmps.getD p undef] w _
 rw [show A.tmps.getD p undef=_ from ea]
 refine (readCoordinate_any w g a c xs (hr.up hw) hb hl).mono ?_
 rintro r w' ⟨rfl,n⟩
 rw [hFi]
 exact ⟨_,rfl,n,elt (low7 xs),rfl,elt_ok (low7_byt hb) (by rw [low7_len];exact hl)⟩
theorem step_ldb (hi:ops[i]?=some o) (p j:Nat) {q off:Nat} {v:Value} (hop:o.op = .load 4 (.tmp p)) (hj:waits md ops i j p=true) (hFj:F j=Fact.eq (.pointer (some ⟨q,off,none⟩))) (hc:w0.cell? ⟨q,off,none⟩=some v) (hF:F i=Fact.eq v):StepOk Tryz.prog md ops Q F a0 w0 i:=by
 refine step_pure hi fun a w _ hw hf=>⟨v,?_,by rw [hF];exact rfl⟩
 have e:=hf j p hj
 rw [hFj] at e
 have e':a.eval (.tmp p) = .pointer (some ⟨q,off,none⟩):=e
 have c':w.cell? ⟨q,off,none⟩=some v:=(hw.cell (block_lt_of_cell hc)).trans hc
 simp only [execOp,hop,e']
 go_simp
theorem step_pw (TT:HasTw w0 8) {D:Int} (CC:Em5 w0 7 0 D) (SS:HasSt w0 13) (II:Has3 w0 9 12 5 4) (RR:HasR w0) (hi:ops[i]?=some o) (p q j k:Nat) {A:Int} {odd:Bool} (hop:o.op = .call { callee := .value (.func 85),args := #[.tmp p,.tmp q],argTypes:=ts })
  (hj:waits md ops i j p=true) (hk:waits md ops i k q=true) (hFj:F j=EM A) (hFk:F k=Fact.eq (.bool odd)) (hFi:F i=TB [pwX D A odd,A] (irB (pwZ D A))):StepOk Tryz.prog md ops Q F a0 w0 i:=by
 refine step_call hi _ _ ts hop (by kernel_rfl) fun a w _ hw hF=>?_
 have ea:=hF j p hj
 have eb:=hF k q hk
 rw [hFj] at ea
 rw [hFk] at eb
 obtain ⟨t,e1,L1⟩:=ea
 show Calls Tryz.prog 85 #[a.tmps.getD p undef,a.tmps.getD q undef] w _
 rw [e1,show a.tmps.getD q undef=_ from eb]
 refine (pointWith_any w t A odd L1 D (TT.up hw) (CC.up hw) (SS.up hw) (II.up hw) (RR.up hw)).mono ?_
 rintro r w' ⟨es,rfl,L,hn⟩
 rw [hFi]
 exact ⟨_,rfl,hn,es,rfl,L⟩
end
def NewP3 (B:Nat) (w':World) (e:Ending) (b:Bool) (xs ys:List Int):Prop :=
 ∃ (a:Option Addr) (c g:Nat) (a':Option Addr) (c' g':Nat),e = .returned (.agg #[.bool b,.slice a xs.length c,.slice a' ys.length c'])∧Own w' g a .u8 xs∧Own w' g' a' .u8 ys∧B≤g∧B≤g'∧(0 < xs.length→0 < ys.length→g≠g')
theorem NewP3.nil {B:Nat} {w:World}:NewP3 B w (.returned (.agg #[.bool false,.slice none 0 0,.slice none 0 0])) false [] []:=⟨none,0,B,none,0,B,rfl,Own.nil _ _ _ _,Own.nil _ _ _ _,Nat.le_refl _,Nat.le_refl _,fun h=>absurd h (by simp)⟩
theorem Tri.there {w:World} {p:Nat} {x y z:Value} (h:Tri w p x y z):w.there p 0 3:=fun j hj=>by
 obtain rfl | rfl | rfl:j=0∨j=1∨j=2:=by omega
 ·exact ⟨by rw [show (⟨p,0+0,none⟩:Addr)=⟨p,0,none⟩ from rfl,h.c0];rfl,h.f0⟩
 ·exact ⟨by rw [show (⟨p,0+1,none⟩:Addr)=⟨p,1,none⟩ from rfl,h.c1];rfl,h.f1⟩
 ·exact ⟨by rw [show (⟨p,0+2,none⟩:Addr)=⟨p,2,none⟩ from rfl,h.c2];rfl,h.f2⟩
theorem Tri.put {w:World} {p:Nat} {x y z:Value} (h:Tri w p x y z) (u v t:Value):Tri (((w.setCell ⟨p,0,none⟩ u).setCell ⟨p,1,none⟩ v).setCell ⟨p,2,none⟩ t) p u v t:=by
 have k0:(w.setCell ⟨p,0,none⟩ u).cell? ⟨p,0,none⟩=some u:=World.cell?_setCell_same _ _ _ h.c0
 have k1:(w.setCell ⟨p,0,none⟩ u).cell? ⟨p,1,none⟩=some y:=by rw [World.cell?_setCell_other (h:=by simp)];exact h.c1
 have k2:(w.setCell ⟨p,0,none⟩ u).cell? ⟨p,2,none⟩=some z:=by rw [World.cell?_setCell_other (h:=by simp)];exact h.c2
 have l0:((w.setCell ⟨p,0,none⟩ u).setCell ⟨p,1,none⟩ v).cell? ⟨p,0,none⟩=some u:=by rw [World.cell?_setCell_other (h:=by simp)];exact k0
 have l1:((w.setCell ⟨p,0,none⟩ u).setCell ⟨p,1,none⟩ v).cell? ⟨p,1,none⟩=some v:=World.cell?_setCell_same _ _ _ k1
 have l2:((w.setCell ⟨p,0,none⟩ u).setCell ⟨p,1,none⟩ v).cell? ⟨p,2,none⟩=some z:=by rw [World.cell?_setCell_other (h:=by simp)];exact k2
 refine ⟨?_,?_,World.cell?_setCell_same _ _ _ l2,?_,?_,?_⟩
 ·rw [World.cell?_setCell_other (h:=by simp)];exact l0
 ·rw [World.cell?_setCell_other (h:=by simp)];exact l1
 ·rw [World.frozen?_setCell,World.frozen?_setCell,World.frozen?_setCell];exact h.f0
 ·rw [World.frozen?_setCell,World.frozen?_setCell,World.frozen?_setCell];exact h.f1
 ·rw [World.frozen?_setCell,World.frozen?_setCell,World.frozen?_setCell];exact h.f2
theorem i3R:(Tryz.prog.info? 31).map (·.size)=some 3:=by kernel_rfl
theorem eq_W4 {U V:Nat→Int} (hU:W4 U) (hV:W4 V):(U 0 == V 0 && U 1 == V 1 && U 2 == V 2 && U 3 == V 3)=decide (wval U=wval V):=by
 by_cases h:wval U=wval V
 ·have e := hU.uniq hV h
  rw [e 0 (by omega),e 1 (by omega),e 2 (by omega),e 3 (by omega)]
  simp [h]
 ·rw [decide_eq_false h]
  cases hq:(U 0 == V 0 && U 1 == V 1 && U 2 == V 2 && U 3 == V 3)
  ·rfl
  ·exfalso
   simp only [Bool.and_eq_true,beq_iff_eq] at hq
   exact h (by unfold wval;rw [hq.1.1.1,hq.1.1.2,hq.1.2,hq.2])
theorem lo_ok {u:Nat→Int} (h:W4 u):W4 (loW u):=fun j hj=>by
 have:=h j hj
 unfold loW
 split
 ·omega
 ·exact this
theorem beq_form (U V:Nat→Int) (p q:Bool) (x y:Nat) (w:World):(do eqGuard .neq 139 (.tmp x) (.tmp y) (FmV U p) (FmV V q);binOp .neq 139 (FmV U p) (FmV V q):Sem Value).run Tryz.prog w = .ok (.bool (!((U 0 == V 0 && U 1 == V 1 && U 2 == V 2 && U 3 == V 3) && p == q))) w:=by
 have h:(eqGuard .neq 139 (.tmp x) (.tmp y) (FmV U p) (FmV V q)).run Tryz.prog w = .ok () w:=by kernel_rfl
 have h2:(binOp .neq 139 (FmV U p) (FmV V q)).run Tryz.prog w = .ok (.bool (!((U 0 == V 0 && U 1 == V 1 && U 2 == V 2 && U 3 == V 3) && p == q))) w:=by
  have k:=eqForm (U 0) (U 1) (U 2) (U 3) (V 0) (V 1) (V 2) (V 3) p q w
  show (do pure (.bool (!(← Op.equal 139 (FmV U p) (FmV V q)))):Sem Value).run Tryz.prog w=_
  rw [Sem.run_bind]
  have k':(Op.equal 139 (FmV U p) (FmV V q)).run Tryz.prog w=_:=k
  rw [k']
  rfl
 rw [Sem.run_bind,h]
 exact h2
section
variable {ops : Array Oper} {Q : Exit → Act → World → Prop} {md : Region.Mode} {F : Nat → Fact} {a0 : Act} {w0 : World} {i : Nat} {o : Oper}
theorem step_lF (hi:ops[i]?=some o) (p:Nat) (hop:o.op = .load 139 (.tmp p)) (hp:apart ops p=true) (q:Nat) (h0:a0.tmps.getD p undef = .pointer (some ⟨q,0,none⟩)) (U:Nat→Int) (b:Bool) (hc:w0.rangeAt q 0 (fmC U b)) (lq:q < w0.heap.size) (hF:F i=Fact.eq (FmV U b)):StepOk Tryz.prog md ops Q F a0 w0 i:=by
 obtain ⟨fs,hu⟩:=uF
 refine step_load hi _ _ hop _ 5 hu rfl iF fun a w hb hw _=>?_
 exact ⟨q,0,_,(based_at hb p hp).trans h0,fun j v hv=>(World.cell?_of_block (a:=⟨q,0+j,none⟩) (hw.block q lq)).trans (hc j v hv),rfl,by rw [hF];exact rfl⟩
theorem step_neF (hi:ops[i]?=some o) (p q j k:Nat) (v:Int) (b c:Bool) (V:Nat→Int) (hV:W4 V) {t:TypeId} (hop:o.op = .binOp .neq 139 (.tmp p) (.tmp q) t)
  (hj:waits md ops i j p=true) (hk:waits md ops i k q=true) (hFj:F j=FM v b) (hFk:F k=Fact.eq (FmV V c)) (hFi:F i=Fact.eq (.bool (!(decide (v=wval V) && b == c)))):StepOk Tryz.prog md ops Q F a0 w0 i:=by
 refine step_pure hi fun a w _ _ hf=>⟨.bool (!(decide (v=wval V) && b == c)),?_,by rw [hFi];exact rfl⟩
 have h1:=hf j p hj
 have h2:=hf k q hk
 rw [hFj] at h1
 rw [hFk] at h2
 obtain ⟨U,e1,X,hX⟩:=h1
 have g1:a.eval (.tmp p)=FmV U b:=e1
 have g2:a.eval (.tmp q)=FmV V c:=h2
 have k:=beq_form U V b c p q w
 rw [eq_W4 X hV,hX] at k
 simp only [execOp,hop,g1,g2]
 rw [Sem.run_bind,k]
 rfl
theorem step_pick {P:Program} (hi:ops[i]?=some o) (p q j k:Nat) {v:Value} {x:Value} (hop:o.op = .pick (.tmp p) (.const x) (.tmp q)) (hj:waits md ops i j p=true) (hk:waits md ops i k q=true) (hFj:F j=Fact.eq (.bool false)) (hFk:F k=Fact.eq v) (hFi:F i=Fact.eq v):StepOk P md ops Q F a0 w0 i:=by
 refine step_pure hi fun a w _ _ hf=>⟨v,?_,by rw [hFi];exact rfl⟩
 have h1:=hf j p hj
 have h2:=hf k q hk
 rw [hFj] at h1
 rw [hFk] at h2
 have g1:a.eval (.tmp p) = .bool false:=h1
 have g2:a.eval (.tmp q)=v:=h2
 have g3:a.eval (.const x)=x:=rfl
 simp only [execOp,hop,g1,g2,g3]
 rfl
end
def oddW (xs:List Int):Bool:=decide (9223372036854775808≤wv (fun j=>xs.getD j 0) 32 3)
def fmB (D:Int) (xs:List Int):Bool:=decide (num (low7 xs) % PP=wval (loW (wv (fun j=>xs.getD j 0) 32))) && (!decide (pwX D (num (low7 xs)) (oddW xs) % PP % 2=0)) == oddW xs
def idB (D:Int) (xs:List Int):Bool:=decide (xs.length=32) && (irB (pwZ D (num (low7 xs))) && fmB D xs)
def idX (D:Int) (xs:List Int):List Int:=if idB D xs=true then fill (byt (pwX D (num (low7 xs)) (oddW xs) % PP)) 32 else []
def idY (D:Int) (xs:List Int):List Int:=if idB D xs=true then fill (byt (num (low7 xs) % PP)) 32 else []
def dpX (D:Int) (xs:List Int):Int:=if idB D xs=true then pwX D (num (low7 xs)) (oddW xs) else 0
def dpY (D:Int) (xs:List Int):Int:=if idB D xs=true then num (low7 xs) else 0
theorem dp_nil {D:Int} {xs:List Int} (h:idB D xs=false):dpX D xs=0∧dpY D xs=0:=by
 unfold dpX dpY
 rw [if_neg (by rw [h];simp),if_neg (by rw [h];simp)]
 exact ⟨rfl,rfl⟩
set_option maxHeartbeats 8000000 in
theorem decodePoint_any (w : World) (g : Nat) (a : Option Addr) (c : Nat) (xs : List Int) (hr : Rd w g a .u8 xs) (hb : Byt xs) (D : Int) (TT : HasTw w 8) (CC : Em5 w 7 0 D) (SS : HasSt w 13) (II : Has3 w 9 12 5 4) (RR : HasR w) :
    Calls Tryz.prog 71 #[.slice a xs.length c] w fun r w'=>∃ es,r = .returned (.tuple #[agN es,.bool (idB D xs)])∧IsN es [dpX D xs,dpY D xs]∧Below w.heap.size w w':=by
  have TR:(w.alloc zA).there w.heap.size 0 10:=there_new w _ _
  have N:Below w.heap.size w (w.alloc zA):=(Below.refl _ _).alloc (Nat.le_refl _) _
  have T:=fun W=>isFieldSize_any W a c xs.length
  by_cases hl:xs.length=32
  · have RF := hide (fun W (n : Below w.heap.size w W) => readForm_any W g a c xs (hr.up n) hb hl)
    have OX:=hide (fun W (n:Below w.heap.size w W)=>of_ok (hr.up n) hb hl)
    have LI:Hid (decide (xs.length=32)=true):=decide_eq_true hl
    rw [hl] at T ⊢
    clear hl hr
    go_enter Tryz.func71,Tryz.ntmps71
    go_wp2_with fail
    change Calls _ _ _ (w.alloc zA) _
    generalize w.alloc zA=wa at *
    refine (T wa).mono ?_
    rintro e wb ⟨rfl,eW⟩
    subst eW
    clear T
    go_wp2_with fail
    refine (RF.out wb N).mono ?_
    rintro r w1 ⟨u,rfl,hu,hU,n1⟩
    replace TR:=there_up (by omega) TR n1
    replace N:=nxt N n1
    clear n1 RF
    obtain ⟨odd,hodd⟩:∃ b,b=decide (9223372036854775808≤u 3):=⟨_,rfl⟩
    rw [← hodd]
    have HO:Hid (odd=oddW xs):=by show _=_;rw [hodd,hU];rfl
    have HU:=hide hU
    clear hodd hU
    simp only [FmV,fmC]
    have n2:Below w1.heap.size w1 (w1.alloc (.cells #[.int .u64 (loW u 0),.int .u64 (loW u 1),.int .u64 (loW u 2),.int .u64 (loW u 3),.bool odd] 139)):=(Below.refl _ _).alloc (Nat.le_refl _) _
    have hB:(w1.alloc (.cells #[.int .u64 (loW u 0),.int .u64 (loW u 1),.int .u64 (loW u 2),.int .u64 (loW u 3),.bool odd] 139)).heap[w1.heap.size]?=some (.cells #[.int .u64 (loW u 0),.int .u64 (loW u 1),.int .u64 (loW u 2),.int .u64 (loW u 3),.bool odd] 139):=heap_alloc_last _ _
    replace TR:=there_up (by omega) TR n2
    replace N:=nxt N n2
    clear n2
    go_upto_region 4 with fail
    generalize w1.alloc (.cells #[.int .u64 (loW u 0),.int .u64 (loW u 1),.int .u64 (loW u 2),.int .u64 (loW u 3),.bool odd] 139)=w2 at *
    have FC:∀ W:World,W.heap[w1.heap.size]?=w2.heap[w1.heap.size]?→W.cell? ⟨w1.heap.size,0,none⟩=some (.int .u64 (loW u 0))∧W.cell? ⟨w1.heap.size,1,none⟩=some (.int .u64 (loW u 1))∧W.cell? ⟨w1.heap.size,2,none⟩=some (.int .u64 (loW u 2))∧W.cell? ⟨w1.heap.size,3,none⟩=some (.int .u64 (loW u 3))∧W.cell? ⟨w1.heap.size,4,none⟩=some (.bool odd):=fun W h=>by
      rw [hB] at h
      refine ⟨?_,?_,?_,?_,?_⟩ <;> (unfold World.cell?;simp only;rw [h];rfl)
    have lB:w1.heap.size < w2.heap.size:=(Array.getElem?_eq_some_iff.1 hB).1
    have CB:=(FC w2 rfl).2.2.2.2
    have HFC:=hide FC
    clear FC hB
    replace OX:=hide (OX.out w2 N)
    replace TT:=TT.up N
    replace CC:=CC.up N
    replace SS:=SS.up N
    replace II:=II.up N
    replace RR:=RR.up N
    refine region_newN_late 85 9 8 6 5 19 7 20 6 _ _ (fun i=>[Fact.eq (.slice a 32 c),EM (num (low7 xs)),Fact.eq (.pointer (some ⟨w1.heap.size,4,none⟩)),Fact.eq (.bool odd),TB [pwX D (num (low7 xs)) odd,num (low7 xs)] (irB (pwZ D (num (low7 xs)))),TB [pwX D (num (low7 xs)) odd,num (low7 xs)] (irB (pwZ D (num (low7 xs)))),EN [pwX D (num (low7 xs)) odd,num (low7 xs)],Fact.eq (.bool (irB (pwZ D (num (low7 xs))))),NB w2 10].getD i Fact.no) [pwX D (num (low7 xs)) odd,num (low7 xs)] (.bool (irB (pwZ D (num (low7 xs))))) (by kernel_rfl) rfl rfl rfl rfl rfl rfl iA (Nat.zero_lt_succ _) rfl rfl (by kernel_rfl) (by kernel_rfl) (by kernel_rfl) rfl rfl rfl (by decide) (by decide) (by kernel_rfl) ?_ ?_ ?_
    · intro j d v u u' hw h
      obtain rfl:j=5:=late_one (by kernel_rfl) hw
      exact h
    · intro i hi
      obtain rfl | rfl | rfl | rfl | rfl | rfl | rfl | rfl | rfl:i=0∨i=1∨i=2∨i=3∨i=4∨i=5∨i=6∨i=7∨i=8:=by omega
      · exact step_mv rfl 0 rfl (by kernel_rfl) rfl rfl
      · exact step_rc rfl 14 0 rfl (by kernel_rfl) OX.out rfl rfl
      · exact step_fld rfl 139 4 1 rfl (by kernel_rfl) _ _ rfl (foF _) rfl
      · exact step_ldb rfl 16 2 rfl (by kernel_rfl) rfl CB rfl
      · exact step_pw TT CC SS II RR rfl 15 17 1 3 rfl (by kernel_rfl) (by kernel_rfl) rfl rfl rfl
      · exact step_move rfl 18 4 (by exact Or.inl rfl) (by kernel_rfl) rfl
      · exact step_tx0 rfl 13 5 _ _ rfl (by kernel_rfl) rfl rfl
      · exact step_tx1 rfl 13 5 _ _ rfl (by kernel_rfl) rfl rfl
      · exact step_newA rfl rfl rfl
    intro vs4 q4 W4' v4 b5 l4 n R4 T4
    replace TR:=there_up (by omega) TR n
    replace N:=nxt N n
    have HB:=HFC.out W4' (n.block w1.heap.size lB)
    clear n T4 OX TT CC SS II RR CB HFC
    obtain ⟨gd,hgd⟩:∃ b,b=irB (pwZ D (num (low7 xs))):=⟨_,rfl⟩
    rw [← hgd] at b5
    have HG:=hide hgd
    clear hgd
    simp only [puts,v4,b5,Act.put,List.setIfInBounds_toArray,List.set_cons_succ,List.set_cons_zero]
    clear v4 b5
    cases gd with
    | false =>
      have eB:idB D xs=false:=by unfold idB;rw [LI.out,← HG.out];rfl
      obtain ⟨eX,eY⟩:=dp_nil eB
      clear HB R4
      go_upto_region 5 with fail
      go_quiet (fail)
      have nd:Below W4'.heap.size W4' (W4'.drewN nq):=(Only.drewN W4' W4'.heap.size nq).below (Nat.le_refl _)
      replace TR:=there_up (by omega) TR nd
      replace N:=nxt N nd
      clear nd
      generalize W4'.drewN nq=Wq at *
      go_upto_region 6 with fail
      refine region_putN_asgc 85 1 0 2 29 3 _ _ (fun i=>[EN [0,0]].getD i Fact.no) [0,0] (.bool false) _ (by kernel_rfl) rfl rfl rfl rfl rfl rfl iA (Nat.zero_lt_succ _) (by kernel_rfl) rfl TR rfl (by kernel_rfl) rfl (by kernel_rfl) ?_ ?_
      · intro i hi
        obtain rfl:i=0:=by omega
        exact step_b0A rfl rfl rfl
      intro vsL Wa Wb vb na bq RL nb
      have NS:=nb w w.heap.size (nxt N na) (by omega)
      simp only [puts,vb,Act.put,List.setIfInBounds_toArray,List.set_cons_succ,List.set_cons_zero]
      clear vb bq nb na N TR
      go_wp2
      obtain ⟨es,rg,_,ht⟩:=RL
      have lz:=clN_len ht
      obtain ⟨fs,hfs⟩:=uA
      exact bodyPost_ret (v := .tuple #[agN es,.bool false]) (results_cell_slot Tryz.results71 _ _ w.heap.size (clN es) _ rfl rfl rg hfs rfl (by rw [lz];exact iA)) rfl ⟨es,by rw [eB],by rw [eX,eY];exact ht,NS⟩
    | true =>
      have RF:W4'.rangeAt w1.heap.size 0 (fmC (loW u) odd):=fun j v hv=>by
        obtain ⟨h0,h1,h2,h3,h4⟩:=HB
        have hj:j < 5:=(List.getElem?_eq_some_iff.1 hv).1
        obtain rfl | rfl | rfl | rfl | rfl:j=0∨j=1∨j=2∨j=3∨j=4:=by omega
        · cases hv;exact h0
        · cases hv;exact h1
        · cases hv;exact h2
        · cases hv;exact h3
        · cases hv;exact h4
      have lB':w1.heap.size < W4'.heap.size:=block_lt_of_cell HB.1
      clear HB
      go_upto_region 5 with fail
      refine region_guard (fun i=>[Fact.eq (.bool true),Fact.eq (.bool (!true)),Fact.eq (.bool (!true)),EN [pwX D (num (low7 xs)) odd,num (low7 xs)],FM (num (low7 xs) % PP) (!decide (pwX D (num (low7 xs)) odd % PP % 2=0)),Fact.eq (FmV (loW u) odd),Fact.eq (.bool (!(decide (num (low7 xs) % PP=wval (loW u)) && (!decide (pwX D (num (low7 xs)) odd % PP % 2=0)) == odd))),Fact.eq (.bool (!(decide (num (low7 xs) % PP=wval (loW u)) && (!decide (pwX D (num (low7 xs)) odd % PP % 2=0)) == odd)))].getD i Fact.no) (by kernel_rfl) (by kernel_rfl) ?_ ?_ ?_
      · intro i hi
        have hi8:i < 8:=hi
        obtain rfl | rfl | rfl | rfl | rfl | rfl | rfl | rfl:i=0∨i=1∨i=2∨i=3∨i=4∨i=5∨i=6∨i=7:=by omega
        · exact step_mv rfl 6 rfl (by kernel_rfl) rfl rfl
        · exact step_notb rfl 21 0 rfl (by kernel_rfl) rfl rfl
        · exact step_move rfl 22 1 (by exact Or.inl rfl) (by kernel_rfl) rfl
        · exact step_lA rfl 5 rfl (by kernel_rfl) _ rfl _ _ R4 rfl
        · exact step_form rfl 24 3 _ _ rfl (by kernel_rfl) rfl rfl
        · exact step_lF rfl 4 rfl (by kernel_rfl) _ rfl _ _ RF lB' rfl
        · exact step_neF rfl 25 26 4 5 _ _ _ _ (lo_ok hu) rfl (by kernel_rfl) (by kernel_rfl) rfl rfl rfl
        · exact step_pick rfl 23 27 2 6 rfl (by kernel_rfl) (by kernel_rfl) rfl rfl rfl
      · intro i o ho A W hf
        have hi8:i < 8:=(Array.getElem?_eq_some_iff.1 ho).1
        obtain rfl | rfl | rfl | rfl | rfl | rfl | rfl | rfl:i=0∨i=1∨i=2∨i=3∨i=4∨i=5∨i=6∨i=7:=by omega
        · cases ho;exact wanted_none rfl
        · cases ho;exact wanted_none rfl
        · cases ho;exact wanted_none rfl
        · cases ho;exact wanted_some rfl (by kernel_rfl) (hf 2 23 (by kernel_rfl))
        · cases ho;exact wanted_some rfl (by kernel_rfl) (hf 2 23 (by kernel_rfl))
        · cases ho;exact wanted_some rfl (by kernel_rfl) (hf 2 23 (by kernel_rfl))
        · cases ho;exact wanted_some rfl (by kernel_rfl) (hf 2 23 (by kernel_rfl))
        · cases ho;exact wanted_none rfl
      intro A W hb' hw hF
      have e2:=hF 7 28 (by kernel_rfl)
      obtain ⟨vs,hvs⟩:∃ vs:Nat→Value,∀ d,A.tmps.getD d undef=vs d:=⟨_,fun _=>rfl⟩
      rw [hvs] at e2
      rw [puts_guard (md := .any) (by kernel_rfl) rfl hb' vs hvs]
      replace TR:=there_up (by omega) TR hw
      replace N:=nxt N hw
      replace R4:=R4.up hw
      clear hb' hF hvs hw RF
      obtain ⟨fe,hfe⟩:∃ b,b=(decide (num (low7 xs) % PP=wval (loW u)) && (!decide (pwX D (num (low7 xs)) odd % PP % 2=0)) == odd):=⟨_,rfl⟩
      have e3:vs 28 = .bool (!fe):=by rw [hfe];exact e2
      have HE:=hide hfe
      clear e2 hfe
      simp only [puts,e3,Act.put,List.setIfInBounds_toArray,List.set_cons_succ,List.set_cons_zero]
      clear e3 lB'
      have EB:Hid (idB D xs=fe):=by
        show _=_
        unfold idB fmB
        rw [LI.out,← HG.out,HE.out,HO.out,HU.out]
        rfl
      cases fe with
      | false =>
        have eB:=EB.out
        obtain ⟨eX,eY⟩:=dp_nil eB
        clear EB HE R4
        go_upto_region 6 with fail
        refine region_putN_asgc 85 1 0 2 29 3 _ _ (fun i=>[EN [0,0]].getD i Fact.no) [0,0] (.bool false) _ (by kernel_rfl) rfl rfl rfl rfl rfl rfl iA (Nat.zero_lt_succ _) (by kernel_rfl) rfl TR rfl (by kernel_rfl) rfl (by kernel_rfl) ?_ ?_
        · intro i hi
          obtain rfl:i=0:=by omega
          exact step_b0A rfl rfl rfl
        intro vsL Wa Wb vb na bq RL nb
        have NS:=nb w w.heap.size (nxt N na) (by omega)
        simp only [puts,vb,Act.put,List.setIfInBounds_toArray,List.set_cons_succ,List.set_cons_zero]
        clear vb bq nb na N TR
        go_wp2
        obtain ⟨es,rg,_,ht⟩:=RL
        have lz:=clN_len ht
        obtain ⟨fs,hfs⟩:=uA
        exact bodyPost_ret (v := .tuple #[agN es,.bool false]) (results_cell_slot Tryz.results71 _ _ w.heap.size (clN es) _ rfl rfl rg hfs rfl (by rw [lz];exact iA)) rfl ⟨es,by rw [eB],by rw [eX,eY];exact ht,NS⟩
      | true =>
        have e1:=hide (show dpX D xs=pwX D (num (low7 xs)) odd by unfold dpX;rw [if_pos EB.out,← HO.out])
        have e2:=hide (show dpY D xs=num (low7 xs) by unfold dpY;rw [if_pos EB.out])
        go_upto_region 7 with fail
        refine region_putN_asgc 85 1 0 2 30 3 _ _ (fun i=>[EN [pwX D (num (low7 xs)) odd,num (low7 xs)]].getD i Fact.no) [pwX D (num (low7 xs)) odd,num (low7 xs)] (.bool true) _ (by kernel_rfl) rfl rfl rfl rfl rfl rfl iA (Nat.zero_lt_succ _) (by kernel_rfl) rfl TR rfl (by kernel_rfl) rfl (by kernel_rfl) ?_ ?_
        · intro i hi
          obtain rfl:i=0:=by omega
          exact step_lA rfl 5 rfl (by kernel_rfl) _ rfl _ _ R4 rfl
        intro vsL Wa Wb vb na bq RL nb
        have NS:=nb w w.heap.size (nxt N na) (by omega)
        simp only [puts,vb,Act.put,List.setIfInBounds_toArray,List.set_cons_succ,List.set_cons_zero]
        clear vb bq nb na N TR R4
        go_wp2
        obtain ⟨es,rg,_,ht⟩:=RL
        have lz:=clN_len ht
        obtain ⟨fs,hfs⟩:=uA
        exact bodyPost_ret (v := .tuple #[agN es,.bool true]) (results_cell_slot Tryz.results71 _ _ w.heap.size (clN es) _ rfl rfl rg hfs rfl (by rw [lz];exact iA)) rfl ⟨es,by rw [EB.out],by rw [e1.out,e2.out];exact ht,NS⟩
  · have eB : idB D xs = false := by unfold idB; rw [decide_eq_false hl]; rfl
    obtain ⟨eX,eY⟩:=dp_nil eB
    have t1:decide (xs.length=32)=false:=decide_eq_false hl
    rw [t1] at T
    clear hl t1 hr TT CC SS II RR
    go_enter Tryz.func71,Tryz.ntmps71
    go_wp2_with fail
    change Calls _ _ _ (w.alloc zA) _
    generalize w.alloc zA=wa at *
    refine (T wa).mono ?_
    rintro e wb ⟨rfl,eW⟩
    subst eW
    clear T
    go_upto_region 2 with fail
    refine region_putN_asgc 85 1 0 2 10 3 _ _ (fun i=>[EN [0,0]].getD i Fact.no) [0,0] (.bool false) _ (by kernel_rfl) rfl rfl rfl rfl rfl rfl iA (Nat.zero_lt_succ _) (by kernel_rfl) rfl TR rfl (by kernel_rfl) rfl (by kernel_rfl) ?_ ?_
    · intro i hi
      obtain rfl:i=0:=by omega
      exact step_b0A rfl rfl rfl
    intro vsL Wa Wb vb na bq RL nb
    have NS:=nb w w.heap.size (nxt N na) (by omega)
    simp only [puts,vb,Act.put,List.setIfInBounds_toArray,List.set_cons_succ,List.set_cons_zero]
    clear vb bq nb na N TR
    go_wp2
    obtain ⟨es,rg,_,ht⟩:=RL
    have lz:=clN_len ht
    obtain ⟨fs,hfs⟩:=uA
    exact bodyPost_ret (v := .tuple #[agN es,.bool false]) (results_cell_slot Tryz.results71 _ _ w.heap.size (clN es) _ rfl rfl rg hfs rfl (by rw [lz];exact iA)) rfl ⟨es,by rw [eB],by rw [eX,eY];exact ht,NS⟩
end Go.Proofs.YtnpolopcgmjmnaaGreatDoor
namespace Go.Proofs.YtnpolopcgmjmnaaGreatDoor
set_option maxRecDepth 100000
open Go Go.RowKit
theorem lsum_set' {xs:List Int} {v:Int}:∀ n,n≤31→lsum (fun j=>(xs.set 31 v).getD j 0) n=lsum (fun j=>xs.getD j 0) n
  | 0,_=>rfl
  | n + 1, h => by
    rw [lsum,lsum,lsum_set' n (by omega)]
    congr 2
    simp [List.getD_eq_getElem?_getD,show ¬ (31=n) by omega]
theorem num_set' {xs:List Int} {v:Int} (hl:xs.length=32):num (xs.set 31 v)=num xs+(v - xs.getD 31 0)*256 ^ 31:=by
 unfold num
 rw [List.length_set,hl]
 show lsum (fun j=>(xs.set 31 v).getD j 0) 31+(xs.set 31 v).getD 31 0*256 ^ 31=lsum (fun j=>xs.getD j 0) 31+xs.getD 31 0*256 ^ 31+(v - xs.getD 31 0)*256 ^ 31
 rw [lsum_set' 31 (by omega),Int.sub_mul]
 have e:(xs.set 31 v).getD 31 0=v:=by simp [List.getD_eq_getElem?_getD,hl]
 rw [e]
 omega
theorem w3_top {a:Nat→Int} (h:Bt a):wv a 32 3=wv a 31 3+a 31*72057594037927936∧0≤wv a 31 3∧wv a 31 3 < 72057594037927936:=by
 have e:wv a 32 3=wv a 31 3+if (31:Nat) / 8=3 then a 31*256 ^ (31 % 8) else 0:=rfl
 rw [if_pos (by decide)] at e
 have b:=wv_bd h 3 31
 have k:(256:Int) ^ (min (31 - 8*3) 8)=72057594037927936:=by decide
 rw [k] at b
 exact ⟨by rw [e];rfl,b.1,b.2⟩
theorem odd_is {xs:List Int} (hb:Byt xs):oddW xs=decide (128≤xs.getD 31 0):=by
 unfold oddW
 have h:=w3_top (a:=fun j=>xs.getD j 0) (fun j=>hb j)
 have e:wv (fun j=>xs.getD j 0) 32 3=wv (fun j=>xs.getD j 0) 31 3+xs.getD 31 0*72057594037927936:=h.1
 rw [e]
 have v:=hb 31
 by_cases c:128≤xs.getD 31 0
 ·rw [decide_eq_true c]
  exact decide_eq_true (by omega)
 ·rw [decide_eq_false c]
  exact decide_eq_false (by omega)
theorem lo_val {xs:List Int} (hb:Byt xs) (hl:xs.length=32):wval (loW (wv (fun j=>xs.getD j 0) 32))=num (low7 xs):=by
 have s:=wv_sum (fun j=>xs.getD j 0) 32 (Nat.le_refl _)
 have e:num (low7 xs)=num xs+(xs.getD 31 0 % 128 - xs.getD 31 0)*256 ^ 31:=num_set' hl
 have n:num xs=lsum (fun j=>xs.getD j 0) 32:=by unfold num;rw [hl]
 rw [e,n,← s]
 have h:=w3_top (a:=fun j=>xs.getD j 0) (fun j=>hb j)
 have e3:wv (fun j=>xs.getD j 0) 32 3=wv (fun j=>xs.getD j 0) 31 3+xs.getD 31 0*72057594037927936:=h.1
 have h1:=h.2
 have v:=hb 31
 have p:(256:Int) ^ 31=72057594037927936*6277101735386680763835789423207666416102355444464034512896:=by decide
 rw [p]
 unfold wval loW
 simp only [if_true,show ¬ ((0:Nat)=3) by decide,show ¬ ((1:Nat)=3) by decide,show ¬ ((2:Nat)=3) by decide,if_false]
 have m:wv (fun j=>xs.getD j 0) 32 3 % 9223372036854775808=wv (fun j=>xs.getD j 0) 32 3+(xs.getD 31 0 % 128 - xs.getD 31 0)*72057594037927936:=by
  rw [e3]
  omega
 rw [m,Int.add_mul,Int.mul_assoc]
 generalize wv (fun j=>xs.getD j 0) 32=u
 generalize (xs.getD 31 0 % 128 - xs.getD 31 0)*(72057594037927936*6277101735386680763835789423207666416102355444464034512896)=q
 omega
theorem lift_mod (A:Int):liftZ A % PP=pwZ dGo A % PP:=by
 have d:PP ∣ dE - dGo:=by
  have:=Int.dvd_sub dE_is dGo_is
  rwa [show dE - d0 - (dGo - d0)=dE - dGo by omega] at this
 obtain ⟨k,hk⟩:=d
 have e:dE*(A*A)+1=(A*A*dGo+1)+PP*(k*(A*A)):=by
  rw [show dE=dGo+PP*k by omega]
  generalize PP=P
  grind
 unfold liftZ pwZ
 rw [iv_eInv,e]
 generalize eInv=m
 exact mod_mul rfl (pow_mod (Int.add_mul_emod_self_left _ _ _) m)
theorem ir_root {A B:Int} (h:A % PP=B % PP):irB B=rootB A∧irV B=rootV A:=by
 have p0:0≤A % PP:=Int.emod_nonneg A (by decide)
 have p1:A % PP < PP:=Int.emod_lt_of_pos A (by decide)
 have s:=same_root p0 p1
 unfold irV rootV irB rootB
 rw [← h]
 generalize A % PP=a at *
 generalize r1I a=x at *
 generalize r1S a=y at *
 generalize PP=P at *
 by_cases c:y*y % P=a
 ·have c' := s.1.2 c
  have e:=s.2 c
  subst e
  rw [decide_eq_true c]
  exact ⟨rfl,rfl⟩
 ·have c' : ¬ x * x % P = a := fun k => c (s.1.1 k)
  rw [decide_eq_false c,decide_eq_false c']
  exact ⟨rfl,rfl⟩
theorem neg_of {r:Int} (h0:0 < r) (h1:r < PP):(0 - r) % PP=PP - r:=by
 rw [show 0 - r=(PP - r)+PP*(-1) by generalize PP=P;omega,Int.add_mul_emod_self_left]
 exact Int.emod_eq_of_lt (by generalize PP=P at *;omega) (by generalize PP=P at *;omega)
theorem odd_P:PP % 2=1:=by decide
theorem fin_even {r:Int} (h:0≤r∧r < PP):0≤fin2 r∧fin2 r < PP∧fin2 r % 2=0:=by
 obtain ⟨h0,h1⟩:=h
 unfold fin2
 by_cases c:r % 2=0
 ·rw [if_pos c]
  exact ⟨h0,h1,c⟩
 ·rw [if_neg c, neg_of (by omega) h1]
  have:=odd_P
  generalize PP=P at *
  omega
theorem root_even (A:Int):0≤irV A∧irV A < PP∧irV A % 2=0:=by
 have h:=fin_even (r1I_in (A % PP))
 unfold irV
 generalize fin2 (r1I (A % PP))=r at *
 generalize irB A=b
 cases b
 ·exact ⟨show (0:Int)≤0 by decide,show (0:Int) < PP by decide,show (0:Int) % 2=0 by decide⟩
 ·exact h
theorem par_is (v : Int) (odd : Bool) (h : 0 ≤ v ∧ v < PP ∧ v % 2 = 0) : ((!decide ((if odd = true then 0 - v else v) % PP % 2 = 0)) == odd) = !(odd && decide (v % PP = 0)) := by
 obtain ⟨h0,h1,h2⟩:=h
 have e:v % PP=v:=Int.emod_eq_of_lt h0 h1
 cases odd
 ·simp only [Bool.false_eq_true, if_false]
  rw [e,decide_eq_true h2]
  rfl
 ·simp only [if_true, Bool.true_and]
  rw [e]
  by_cases c:v=0
  ·subst c
   decide
  ·rw [decide_eq_false c, neg_of (by omega) h1, decide_eq_false]
   ·rfl
   ·have := odd_P
    generalize PP=P at *
    omega
theorem can_low {A:Int} (h0:0≤A):decide (A % PP=A)=decide (A < PP):=by
 by_cases c:A < PP
 ·rw [decide_eq_true c,decide_eq_true (Int.emod_eq_of_lt h0 c)]
 ·rw [decide_eq_false c, decide_eq_false]
  intro h
  have:=Int.emod_lt_of_pos A (by decide:(0:Int) < PP)
  omega
theorem idB_eq {xs:List Int} (hb:Byt xs):idB dGo xs=dcB xs:=by
 unfold idB dcB
 by_cases hl:xs.length=32
 ·have L : low7s xs = low7 xs := rfl
  rw [L]
  have r:=ir_root (lift_mod (num (low7 xs)))
  have h0:=num_ge (low7_byt hb)
  have k:=par_is (irV (pwZ dGo (num (low7 xs)))) (decide (128≤xs.getD 31 0)) (root_even _)
  unfold fmB canN liB pwX
  rw [lo_val hb hl,can_low h0,odd_is hb,k,r.1,r.2,low7_len,hl]
  generalize decide (num (low7 xs) < PP)=p
  generalize rootB (liftZ (num (low7 xs)))=q
  generalize (!(decide (128≤xs.getD 31 0) && decide (rootV (liftZ (num (low7 xs))) % PP=0)))=s
  cases p <;> cases q <;> cases s <;> rfl
 ·rw [decide_eq_false hl]
  rfl
theorem idX_eq {xs:List Int} (hb:Byt xs):idX dGo xs=dcX xs:=by
 unfold idX dcX
 rw [idB_eq hb]
 by_cases h:dcB xs=true
 ·rw [if_pos h, if_pos h]
  have h':=h
  unfold dcB at h'
  simp only [Bool.and_eq_true] at h'
  unfold liX
  rw [if_pos h'.2.2]
  have r:=ir_root (lift_mod (num (low7 xs)))
  unfold pwX
  rw [r.2,odd_is hb]
  rfl
 ·rw [if_neg h,if_neg h]
theorem idY_eq {xs:List Int} (hb:Byt xs):idY dGo xs=dcY xs:=by
 unfold idY dcY
 rw [idB_eq hb]
 by_cases h:dcB xs=true
 ·rw [if_pos h, if_pos h]
  have h':=h
  unfold dcB at h'
  simp only [Bool.and_eq_true] at h'
  unfold liY
  rw [if_pos h'.2.2]
  rfl
 ·rw [if_neg h,if_neg h]
end Go.Proofs.YtnpolopcgmjmnaaGreatDoor
namespace Go.Proofs.YtnpolopcgmjmnaaGreatDoor
set_option maxRecDepth 100000
open Go.RowKit
theorem gTw : Tryz.prog.globalNamed "loop.example/g00004/impl.twiceP" = some 8 := by kernel_rfl
theorem tTw:(Tryz.prog.globals[8]?).map (·.type)=some 187:=by kernel_rfl
theorem uTw:Tryz.prog.underlying 187=some (.array 5 65):=by kernel_rfl
theorem cTw:Tryz.prog.cellsOf 187=5:=by kernel_rfl
theorem cU64:Tryz.prog.cellsOf 65=1:=by kernel_rfl
theorem tw_of_reads {W : World} (h : Lib.VarReads Tryz.prog W "loop.example/g00004/impl.twiceP" Rows.laid_loop_example_g00004_impl_twiceP) : HasTw W 8 := by
 obtain ⟨g,t,cs,fuel,p,hg,ht,hv,hd⟩:=h
 obtain rfl:=Option.some.inj (gTw.symm.trans hg)
 obtain rfl:=Option.some.inj (tTw.symm.trans ht)
 have hcs:=Lib.cells_of_tab (zs:=[4503599627370458,4503599627370494,4503599627370494,4503599627370494,4503599627370494]) uTw Tryz.underlying65 cU64 cTw hd
 intro k hk
 rw [World.var?_cell hg hv k]
 obtain ⟨l⟩:=cs
 simp only at hcs
 subst hcs
 obtain rfl | rfl | rfl | rfl | rfl:k=0∨k=1∨k=2∨k=3∨k=4:=by omega
 all_goals rfl
theorem reads_of {l:List (String × DataW Unit)} {W:World} (h:laidMetH Tryz.prog l W) (hp:(l.all fun x=>x.2.handleName?.isNone)=true) {n:String} {d:DataW Unit} (hm:(n,d) ∈ l):Lib.VarReads Tryz.prog W n d:=by
 rw [MakeChecks.laidMetH_plain _ _ _ hp] at h
 exact Lib.laidMet.reads h hm
end Go.Proofs.YtnpolopcgmjmnaaGreatDoor
namespace Go.Proofs.YtnpolopcgmjmnaaGreatDoor
set_option maxRecDepth 100000
open Go.RowKit
theorem gSt : Tryz.prog.globalNamed "loop.example/g00004/impl.chainSteps" = some 13 := by kernel_rfl
theorem tSt:(Tryz.prog.globals[13]?).map (·.type)=some 201:=by kernel_rfl
theorem gIn : Tryz.prog.globalNamed "loop.example/g00004/impl.inverseStep" = some 9 := by kernel_rfl
theorem tIn:(Tryz.prog.globals[9]?).map (·.type)=some 191:=by kernel_rfl
theorem gRo : Tryz.prog.globalNamed "loop.example/g00004/impl.rootStep" = some 10 := by kernel_rfl
theorem tRo:(Tryz.prog.globals[10]?).map (·.type)=some 191:=by kernel_rfl
theorem cStep:Tryz.prog.cellsOf 191=3:=by kernel_rfl
theorem cInt:Tryz.prog.cellsOf 3=1:=by kernel_rfl
theorem step_cells {W:World} {base:Nat} {sp:Nat→Bool} {held:Bool} {fuel:Nat} {cs:List Value} {x y z:Int} {p:List MemPlace}
  (h:DataW.trod (fun _=>()) Tryz.prog W base sp held fuel 191 cs=some (.agg [.lit (.int .i64 x),.lit (.int .i64 y),.lit (.int .i64 z)],p)):cs=[.int .i64 x,.int .i64 y,.int .i64 z]:=by
 have:=Lib.ints_of_struct (k := .i64) (zs:=[x,y,z]) Tryz.underlying191 (fun i f hf=>by
  match i,hf with
  | 0,hf=>cases hf;exact ⟨Tryz.underlying3,rfl,cInt⟩
  | 1,hf=>cases hf;exact ⟨Tryz.underlying3,rfl,cInt⟩
  | 2,hf=>cases hf;exact ⟨Tryz.underlying3,rfl,cInt⟩
  | i+3,hf=>simp at hf) (by rw [cStep];rfl) h
 simpa using this
theorem three_of_reads {W:World} {n:String} {g:Nat} {x y z:Int} (hn:Tryz.prog.globalNamed n=some g) (ht:(Tryz.prog.globals[g]?).map (·.type)=some 191)
  (h:Lib.VarReads Tryz.prog W n (.agg [.lit (.int .i64 x),.lit (.int .i64 y),.lit (.int .i64 z)])):Has3 W g x y z:=by
 obtain ⟨g',t,cs,fuel,p,hg,ht',hv,hd⟩:=h
 obtain rfl:=Option.some.inj (hn.symm.trans hg)
 obtain rfl:=Option.some.inj (ht.symm.trans ht')
 have hcs:=step_cells hd
 obtain ⟨l⟩:=cs
 simp only at hcs
 subst hcs
 exact ⟨by rw [World.var?_cell hg hv 0];rfl,by rw [World.var?_cell hg hv 1];rfl,by rw [World.var?_cell hg hv 2];rfl⟩
theorem st_of_reads {W : World} (h : Lib.VarReads Tryz.prog W "loop.example/g00004/impl.chainSteps" Rows.laid_loop_example_g00004_impl_chainSteps) : HasSt W 13 := by
 obtain ⟨g,t,cs,fuel,p,hg,ht,hv,hd⟩:=h
 obtain rfl:=Option.some.inj (gSt.symm.trans hg)
 obtain rfl:=Option.some.inj (tSt.symm.trans ht)
 have key:∀ j,j < 11→(cs.toList.drop (j*3)).take 3=[.int .i64 (stL.getD (3*j) 0),.int .i64 (stL.getD (3*j+1) 0),.int .i64 (stL.getD (3*j+2) 0)]:=by
  intro j hj
  obtain ⟨f',d,q,h1,h2⟩:=Lib.array_elem u86 hd j hj
  rw [cStep] at h2
  obtain rfl | rfl | rfl | rfl | rfl | rfl | rfl | rfl | rfl | rfl | rfl:j=0∨j=1∨j=2∨j=3∨j=4∨j=5∨j=6∨j=7∨j=8∨j=9∨j=10:=by omega
  all_goals
   cases h1
   exact step_cells h2
 intro i hi
 rw [World.var?_cell hg hv i]
 have k:=key (i / 3) (by omega)
 have e:cs[i]?=((cs.toList.drop (i / 3*3)).take 3)[i % 3]?:=by
  rw [List.getElem?_take,if_pos (by omega),List.getElem?_drop,show i / 3*3+i % 3=i by omega]
  simp
 rw [e,k]
 rcases (show i % 3=0∨i % 3=1∨i % 3=2 by omega) with r | r | r
 all_goals
  rw [r]
  simp only [List.getElem?_cons_zero,List.getElem?_cons_succ]
  congr 3
  omega
end Go.Proofs.YtnpolopcgmjmnaaGreatDoor
namespace Go.Proofs.YtnpolopcgmjmnaaGreatDoor
set_option maxRecDepth 100000
open Go.RowKit
theorem gCf : Tryz.prog.globalNamed "loop.example/g00004/impl.curveFactor" = some 7 := by kernel_rfl
theorem tCf:(Tryz.prog.globals[7]?).map (·.type)=some 83:=by kernel_rfl
theorem uEl:Tryz.prog.underlying 83=some (.array 5 65):=by kernel_rfl
theorem cEl:Tryz.prog.cellsOf 83=5:=by kernel_rfl
theorem cf_of_reads {W : World} (h : Lib.VarReads Tryz.prog W "loop.example/g00004/impl.curveFactor" Rows.laid_loop_example_g00004_impl_curveFactor) : Em5 W 7 0 dGo := by
 obtain ⟨g,t,cs,fuel,p,hg,ht,hv,hd⟩:=h
 obtain rfl:=Option.some.inj (gCf.symm.trans hg)
 obtain rfl:=Option.some.inj (tCf.symm.trans ht)
 have hcs:=Lib.cells_of_tab (zs:=[929955233495203,466365720129213,1662059464998953,2033849074728123,1442794654840575]) uEl Tryz.underlying65 cU64 cEl hd
 obtain ⟨l⟩:=cs
 simp only at hcs
 subst hcs
 have key:∀ j v,(cl5 dL)[j]?=some v→W.cell? ⟨7,0+j,none⟩=some v:=fun j v hv'=>by
  rw [Nat.zero_add,World.var?_cell hg hv j,List.getElem?_toArray]
  exact hv'
 exact ⟨dL,key,block_lt_of_cell (by simpa using key 0 _ rfl),dL_is⟩
theorem gZp : Tryz.prog.globalNamed "loop.example/g00004/impl.zeroPoint" = some 2 := by kernel_rfl
theorem tZp:(Tryz.prog.globals[2]?).map (·.type)=some 85:=by kernel_rfl
theorem gBp : Tryz.prog.globalNamed "loop.example/g00004/impl.basePoint" = some 1 := by kernel_rfl
theorem tBp:(Tryz.prog.globals[1]?).map (·.type)=some 85:=by kernel_rfl
theorem cAf:Tryz.prog.cellsOf 85=10:=by kernel_rfl
theorem row_of_reads {W:World} {n:String} {g:Nat} (e f:Nat→Int) (X Y:Int) (hn:Tryz.prog.globalNamed n=some g) (ht:(Tryz.prog.globals[g]?).map (·.type)=some 85)
  (h:Lib.VarReads Tryz.prog W n (.agg [.agg [.lit (.int .u64 (e 0)),.lit (.int .u64 (e 1)),.lit (.int .u64 (e 2)),.lit (.int .u64 (e 3)),.lit (.int .u64 (e 4))],.agg [.lit (.int .u64 (f 0)),.lit (.int .u64 (f 1)),.lit (.int .u64 (f 2)),.lit (.int .u64 (f 3)),.lit (.int .u64 (f 4))]]))
  (hx:Is5 e X) (hy:Is5 f Y):RowN W g 0 [X,Y]:=by
 obtain ⟨g',t,cs,fuel,p,hg,ht',hv,hd⟩:=h
 obtain rfl:=Option.some.inj (hn.symm.trans hg)
 obtain rfl:=Option.some.inj (ht.symm.trans ht')
 obtain ⟨y0,y1,m,hx',hl,h0,h1⟩:=ChangeShapes.trod_struct2 Tryz.underlying85 hd
 obtain ⟨d0,p0⟩:=y0
 obtain ⟨d1,p1⟩:=y1
 simp only [Prod.mk.injEq,DataW.agg.injEq,List.cons.injEq,and_true] at hx'
 obtain ⟨⟨rfl,rfl⟩,_⟩:=hx'
 have k0:=Lib.cells_of_tab (zs:=[e 0,e 1,e 2,e 3,e 4]) uEl Tryz.underlying65 cU64 cEl h0
 have k1:=Lib.cells_of_tab (zs:=[f 0,f 1,f 2,f 3,f 4]) uEl Tryz.underlying65 cU64 cEl h1
 rw [cAf] at hl
 obtain ⟨l⟩:=cs
 simp only at hl k0 k1
 rw [cEl] at k0 k1
 have e1:l=clN [e,f]:=by
  have s:l=(l.drop 0).take 5 ++ (l.drop 5).take 5:=by
   rw [List.drop_zero,List.take_of_length_le (l:=l.drop 5) (by rw [List.length_drop];omega),List.take_append_drop]
  rw [s]
  have k0':(l.drop 0).take 5=cl5 e:=k0
  have k1':(l.drop 5).take 5=cl5 f:=k1
  rw [k0',k1']
  simp [clN]
 subst e1
 have key:∀ j v,(clN [e,f])[j]?=some v→W.cell? ⟨g,0+j,none⟩=some v:=fun j v hv'=>by
  rw [Nat.zero_add,World.var?_cell hg hv j]
  simpa using hv'
 exact ⟨[e,f],key,block_lt_of_cell (by simpa using key 0 _ rfl),hx,hy,trivial⟩
theorem zp_of_reads {W : World} (h : Lib.VarReads Tryz.prog W "loop.example/g00004/impl.zeroPoint" Rows.laid_loop_example_g00004_impl_zeroPoint) : RowN W 2 0 [0, 1] :=
 row_of_reads (sm5 0) (sm5 1) 0 1 gZp tZp h (sm5_ok (by omega) (by omega)) (sm5_ok (by omega) (by omega))
end Go.Proofs.YtnpolopcgmjmnaaGreatDoor
namespace Go.Proofs.YtnpolopcgmjmnaaGreatDoor
set_option maxRecDepth 100000
open Go Go.RowKit
section
variable {ops : Array Oper} {Q : Exit → Act → World → Prop} {md : Region.Mode} {F : Nat → Fact} {a0 : Act} {w0 : World} {i : Nat} {o : Oper} {ts : Array TypeId}
end
end Go.Proofs.YtnpolopcgmjmnaaGreatDoor
namespace Go.Proofs.YtnpolopcgmjmnaaGreatDoor
set_option maxRecDepth 100000
open Go Go.RowKit
end Go.Proofs.YtnpolopcgmjmnaaGreatDoor
namespace Go.Proofs.YtnpolopcgmjmnaaGreatDoor
set_option maxRecDepth 100000
open Go Go.RowKit
def esA (xs ys:List Int):List Int:=if validP xs ys=true then ys.set 31 (ys.getD 31 0+128*(xs.getD 0 0 % 2)) else []
section
variable {ops : Array Oper} {Q : Exit → Act → World → Prop} {md : Region.Mode} {F : Nat → Fact} {a0 : Act} {w0 : World} {i : Nat} {o : Oper}
theorem step_at0 (hi:ops[i]?=some o) (p j:Nat) {g off c:Nat} (hop:o.op = .indexAddr 22 (.tmp p) (.const (.int .i64 0))) (hj:waits md ops i j p=true) (hFj:F j=Fact.eq (.slice (some ⟨g,off,none⟩) 32 c)) (hF:F i=Fact.eq (.pointer (some ⟨g,off,none⟩))):StepOk Tryz.prog md ops Q F a0 w0 i:=by
 refine step_pure hi fun a w hb hw hf=>⟨.pointer (some ⟨g,off,none⟩),?_,by rw [hF];exact rfl⟩
 have e:=hf j p hj
 rw [hFj] at e
 have e':a.eval (.tmp p) = .slice (some ⟨g,off,none⟩) 32 c:=e
 have e2:a.eval (.const (.int .i64 0)) = .int .i64 0:=rfl
 simp only [execOp,hop,e',e2]
 go_simp
theorem step_rem2 (hi:ops[i]?=some o) (p j:Nat) {v:Int} (h0:0≤v∧v < 256) (hop:o.op = .binOp .rem 5 (.tmp p) (.const (.int .u8 2)) 5) (hj:waits md ops i j p=true) (hFj:F j=Fact.eq (.int .u8 v)) (hF:F i=Fact.eq (.int .u8 (v % 2))):StepOk Tryz.prog md ops Q F a0 w0 i:=by
 have et:v.tmod 2=v % 2:=Int.tmod_eq_emod_of_nonneg h0.1
 refine step_pure hi fun a w _ hw hf=>⟨.int .u8 (v % 2),?_,by rw [hF];exact rfl⟩
 have e:=hf j p hj
 rw [hFj] at e
 have e':a.eval (.tmp p) = .int .u8 v:=e
 have e2:a.eval (.const (.int .u8 2)) = .int .u8 2:=rfl
 simp only [execOp,hop,e',e2]
 go_simp
theorem step_m128 (hi:ops[i]?=some o) (p j:Nat) {v:Int} (h0:0≤v∧v < 2) (hop:o.op = .binOp .mul 5 (.const (.int .u8 128)) (.tmp p) 5) (hj:waits md ops i j p=true) (hFj:F j=Fact.eq (.int .u8 v)) (hF:F i=Fact.eq (.int .u8 (128*v))):StepOk Tryz.prog md ops Q F a0 w0 i:=by
 have ew:IntKind.u8.wrap (128*v)=128*v:=by rw [IntKind.wrap_u8];omega
 refine step_pure hi fun a w _ hw hf=>⟨.int .u8 (128*v),?_,by rw [hF];exact rfl⟩
 have e:=hf j p hj
 rw [hFj] at e
 have e':a.eval (.tmp p) = .int .u8 v:=e
 have e2:a.eval (.const (.int .u8 128)) = .int .u8 128:=rfl
 simp only [execOp,hop,e',e2]
 go_simp
theorem step_add8 (hi:ops[i]?=some o) (p q j k:Nat) {u v:Int} (h0:0≤u+v∧u+v < 256) (hop:o.op = .binOp .add 5 (.tmp p) (.tmp q) 5) (hj:waits md ops i j p=true) (hk:waits md ops i k q=true) (hFj:F j=Fact.eq (.int .u8 u)) (hFk:F k=Fact.eq (.int .u8 v)) (hF:F i=Fact.eq (.int .u8 (u+v))):StepOk Tryz.prog md ops Q F a0 w0 i:=by
 have ew:IntKind.u8.wrap (u+v)=u+v:=by rw [IntKind.wrap_u8];omega
 refine step_pure hi fun a w _ hw hf=>⟨.int .u8 (u+v),?_,by rw [hF];exact rfl⟩
 have e:=hf j p hj
 have e3:=hf k q hk
 rw [hFj] at e
 rw [hFk] at e3
 have e':a.eval (.tmp p) = .int .u8 u:=e
 have e2:a.eval (.tmp q) = .int .u8 v:=e3
 simp only [execOp,hop,e',e2]
 go_simp
end
theorem own_set {w:World} {h off:Nat} {xs:List Int} (o:Own w h (some ⟨h,off,none⟩) .u8 xs) (h0:0 < xs.length) (i:Nat) (hi:i < xs.length) (v:Int):Own (w.setCell ⟨h,off+i,none⟩ (.int .u8 v)) h (some ⟨h,off,none⟩) .u8 (xs.set i v):=by
 obtain ⟨off',e,hc⟩:=o h0
 cases e
 intro _
 refine ⟨off,rfl,fun j hj=>?_⟩
 rw [List.length_set] at hj
 obtain ⟨c,f⟩:=hc j hj
 refine ⟨?_,by rw [World.frozen?_setCell];exact f⟩
 by_cases e:j=i
 ·subst e
  rw [World.cell?_setCell_same _ _ _ c]
  simp [List.getD_eq_getElem?_getD,hj]
 ·rw [World.cell?_setCell_other (h := by simp; try omega), c]
  simp [List.getD_eq_getElem?_getD,Ne.symm e]
theorem region_st8 {ops:Array Oper} {Q:Exit→Act→World→Prop} {a0:Act} {w:World} {id:Nat} {draw:Bool} (k jA jV pA pV:Nat) (o:Oper) (F:Nat→Fact) {q off:Nat} {v u:Int} (hT:textOk .any ops a0.tmps.size k=true) (hk:ops[k]?=some o) (hd:o.dst=none) (hop:o.op = .store 5 (.tmp pA) (.tmp pV))
  (wA:writes ops jA pA=true) (wV:writes ops jV pV=true) (FA:F jA=Fact.eq (.pointer (some ⟨q,off,none⟩))) (FV:F jV=Fact.eq (.int .u8 v)) (hc:w.cell? ⟨q,off,none⟩=some (.int .u8 u)) (hf:w.frozen? ⟨q,off,none⟩=false) (steps:∀ i,i < k→StepOk Tryz.prog .any ops Q F a0 w i)
  (fin:∀ (vs:Nat→Value) (W:World),Below w.heap.size w W→Q .normal (puts vs a0 ops.toList) (W.setCell ⟨q,off,none⟩ (.int .u8 v))) :
  (Code.region id ops draw).wp Tryz.prog Q a0 w:=by
 refine region_store k o F (by kernel_rfl) hT hk hd steps fun a W hb hw hF=>?_
 have h1:=hF jA pA wA
 have h2:=hF jV pV wV
 rw [FA] at h1
 rw [FV] at h2
 have e1:a.eval (.tmp pA) = .pointer (some ⟨q,off,none⟩):=h1
 have e2:a.eval (.tmp pV) = .int .u8 v:=h2
 have lq:=block_lt_of_cell hc
 have c':W.cell? ⟨q,off,none⟩=some (.int .u8 u):=(hw.cell lq).trans hc
 have f':W.frozen? ⟨q,off,none⟩=false:=(hw.frozen lq).trans hf
 have hr:(execOp a.eval o).run Tryz.prog W = .ok .skip (W.setCell ⟨q,off,none⟩ (.int .u8 v)):=by
  simp only [execOp,hop,e1,e2]
  go_simp
 obtain ⟨vs,hvs⟩:∃ vs:Nat→Value,∀ d,a.tmps.getD d undef=vs d:=⟨_,fun _=>rfl⟩
 unfold Oper.wp
 rw [hr,Oper.upon_skip,hd]
 show Q .normal a _
 rw [puts_of hT rfl hb vs hvs]
 exact fin vs W hw
set_option maxHeartbeats 4000000 in
theorem specEncode_any (w:World) (g g':Nat) (a a':Option Addr) (c c':Nat) (xs ys:List Int) (hx:Rd w g a .u8 xs) (hy:Rd w g' a' .u8 ys) (bx:Byt xs) (by':Byt ys) (y31:validP xs ys=true→ys.getD 31 0 < 128) :
    Calls Tryz.prog 11 #[.agg #[.slice a xs.length c,.slice a' ys.length c']] w fun r w'=>NewRow w.heap.size w' r .u8 (esA xs ys)∧Below w.heap.size w w':=by
  have PV:=fun W h h'=>pointValid_any W g g' a a' c c' xs ys h h' bx by'
  have hx0:=hx
  have hy0:=hy
  have bx0:=bx
  have by0:=by'
  have T:=two_cells w (.slice a xs.length c) (.slice a' ys.length c') 29
  have m1:Below w.heap.size w (w.alloc (.cells #[.slice a xs.length c,.slice a' ys.length c'] 29)):=(Below.refl _ _).alloc (Nat.le_refl _) _
  have s1:(w.alloc (.cells #[.slice a xs.length c,.slice a' ys.length c'] 29)).heap.size=w.heap.size+1:=by simp
  have RX:RdOk w a xs:=⟨g,hx,bx⟩
  have RY:RdOk w a' ys:=⟨g',hy,by'⟩
  obtain ⟨CX,CY⟩:=T
  clear hx hy bx by' RX RY
  go_enter Tryz.func11,Tryz.ntmps11
  go_upto_region 1 with fail
  generalize w.alloc (.cells #[.slice a xs.length c,.slice a' ys.length c'] 29)=wa at *
  have N:=m1
  clear m1 s1
  cases hv:validP xs ys with
  | false =>
    have e1:esA xs ys=[]:=by unfold esA;rw [hv];rfl
    simp only [hv] at PV
    go_wp2_with fail
    refine (PV wa (hx0.up N) (hy0.up N)).mono ?_
    rintro e w1 ⟨rfl,n1⟩
    replace N:=nxt N n1
    clear PV n1 CX CY hv y31
    go_wp2
    go_ret
    have z:=N.size
    exact ⟨by rw [e1];exact ⟨_,0,w1.heap.size,rfl,fun h=>absurd h (by simp),fun _=>rfl,Nat.le_refl _,by omega⟩,N.alloc N.size _⟩
  | true =>
    have e1:=hide (show esA xs ys=ys.set 31 (ys.getD 31 0+128*(xs.getD 0 0 % 2)) by unfold esA;rw [if_pos hv])
    have LL:=hide (valid_len hv)
    have q31:=y31 hv
    simp only [hv] at PV
    go_wp2_with fail
    refine (PV wa (hx0.up N) (hy0.up N)).mono ?_
    rintro e w1 ⟨rfl,n1⟩
    replace N:=nxt N n1
    replace CX:=(n1.cell (block_lt_of_cell CX)).trans CX
    replace CY:=(n1.cell (block_lt_of_cell CY)).trans CY
    have hs:Hid (a'=none→c'=0):=fun e=>by
      obtain ⟨_,e',_⟩:=hy0 (by have:=LL.out.2;omega)
      rw [e] at e'
      cases e'
    have CP:=hide (fun W (n:Below w.heap.size w W)=>l1Copy_any W g' a' c' ys (hy0.up n) hs.out (by have:=LL.out.2;omega))
    clear PV n1 hv
    go_wp2_with fail
    refine (CP.out w1 N).mono ?_
    rintro r w2 ⟨⟨b,d,h,rfl,o2,k1,k2,hh⟩,n2⟩
    have N2:=nxt N n2
    replace CX:=(n2.cell (block_lt_of_cell CX)).trans CX
    have RX:=hx0.up N2
    obtain ⟨off,rfl,hc⟩:=o2 (by have:=LL.out.2;omega)
    obtain ⟨ox,rfl,hcx⟩:=RX (by have:=LL.out.1;omega)
    have q0:=(hc 31 (by have:=LL.out.2;omega)).1
    have f0:=(hc 31 (by have:=LL.out.2;omega)).2
    have p0:=hcx 0 (by have:=LL.out.1;omega)
    rw [Nat.add_zero] at p0
    have ly:(31:Int) < (ys.length:Int):=by have:=LL.out.2;omega
    have lx:(0:Int) < (xs.length:Int):=by have:=LL.out.1;omega
    have v0:=bx0 0
    have v1:=by0 31
    obtain ⟨y,hy⟩:∃ y,y=ys.getD 31 0:=⟨_,rfl⟩
    obtain ⟨x,hx⟩:∃ x,x=xs.getD 0 0:=⟨_,rfl⟩
    rw [← hy] at q0 v1 q31
    rw [← hx] at p0 v0
    have hY:=hide hy
    have hX:=hide hx
    have zN:=N.size
    clear hy hx CY n2 CP N
    have l1:=LL.out.1
    have l2:=LL.out.2
    go_upto_region 4 with fail
    rw [l1] at CX
    clear l1 l2
    refine region_st8 12 11 10 22 21 _ (fun i=>[Fact.eq (.slice (some ⟨h,off,none⟩) 32 d),Fact.eq (.slice (some ⟨h,off,none⟩) 32 d),Fact.eq (.pointer (some ⟨h,off+31,none⟩)),Fact.eq (.int .u8 y),Fact.eq (.pointer (some ⟨w.heap.size,0,none⟩)),Fact.eq (.slice (some ⟨g,ox,none⟩) 32 c),Fact.eq (.pointer (some ⟨g,ox,none⟩)),Fact.eq (.int .u8 x),Fact.eq (.int .u8 (x % 2)),Fact.eq (.int .u8 (128*(x % 2))),Fact.eq (.int .u8 (y+128*(x % 2))),Fact.eq (.pointer (some ⟨h,off+31,none⟩))].getD i Fact.no) (by kernel_rfl) rfl rfl rfl (by kernel_rfl) (by kernel_rfl) rfl rfl q0 f0 ?_ ?_
    · intro i hi
      obtain rfl | rfl | rfl | rfl | rfl | rfl | rfl | rfl | rfl | rfl | rfl | rfl:i=0∨i=1∨i=2∨i=3∨i=4∨i=5∨i=6∨i=7∨i=8∨i=9∨i=10∨i=11:=by omega
      · exact step_mv rfl 3 rfl (by kernel_rfl) rfl rfl
      · exact step_mv rfl 3 rfl (by kernel_rfl) rfl rfl
      · exact step_at31 rfl 12 1 rfl (by kernel_rfl) rfl rfl
      · exact step_ld8 rfl 13 2 rfl (by kernel_rfl) rfl q0 rfl
      · exact step_fld rfl 29 1 0 rfl (by kernel_rfl) _ _ rfl (fxP _) rfl
      · exact step_lds rfl 15 4 rfl (by kernel_rfl) _ _ rfl _ _ _ CX rfl
      · exact step_at0 rfl 16 5 rfl (by kernel_rfl) rfl rfl
      · exact step_ld8 rfl 17 6 rfl (by kernel_rfl) rfl p0 rfl
      · exact step_rem2 rfl 18 7 v0 rfl (by kernel_rfl) rfl rfl
      · exact step_m128 rfl 19 8 (by omega) rfl (by kernel_rfl) rfl rfl
      · exact step_add8 rfl 14 20 3 9 (by omega) rfl (by kernel_rfl) (by kernel_rfl) rfl rfl rfl
      · exact step_at31 rfl 11 0 rfl (by kernel_rfl) rfl rfl
    intro vs W n
    have NW:=nxt N2 n
    have ow:=(o2.up n)
    have lh:=o2.rd.lt (by have:=LL.out.2;omega)
    have z1:=N2.size
    have o3:=own_set ow (by have:=LL.out.2;omega) 31 (by have:=LL.out.2;omega) (y+128*(x % 2))
    have NF:Below w.heap.size w (W.setCell ⟨h,off+31,none⟩ (.int .u8 (y+128*(x % 2)))):=NW.setCell (by show w.heap.size≤h;omega) _
    simp only [puts,Act.put,List.setIfInBounds_toArray,List.set_cons_succ,List.set_cons_zero]
    clear n NW ow q0 f0 p0 CX hc hcx RX o2 ly lx
    have LS:=hide (show (ys.set 31 (y+128*(x % 2))).length=32 by rw [List.length_set];exact LL.out.2)
    go_wp2
    go_ret
    exact ⟨by rw [e1.out,← hY.out,← hX.out];exact ⟨_,d,h,by rw [LS.out];rfl,o3,(fun e=>by cases e),(by rw [LS.out];have:=LL.out.2;omega),(by omega)⟩,NF⟩
end Go.Proofs.YtnpolopcgmjmnaaGreatDoor
namespace Go.Proofs.YtnpolopcgmjmnaaGreatDoor
set_option maxRecDepth 100000
open Go Go.RowKit
end Go.Proofs.YtnpolopcgmjmnaaGreatDoor
namespace Go.Proofs.YtnpolopcgmjmnaaGreatDoor
set_option maxRecDepth 100000
open Go Go.RowKit
end Go.Proofs.YtnpolopcgmjmnaaGreatDoor
namespace Go.Proofs.YtnpolopcgmjmnaaGreatDoor
set_option maxRecDepth 100000
open Go Go.RowKit
def bxL:Nat→Int
 | 0=>1738742601995546
 | 1=>1146398526822698
 | 2=>2070867633025821
 | 3=>562264141797630
 | 4=>587772402128613
 | _=>0
def byL:Nat→Int
 | 0=>1801439850948184
 | 1=>1351079888211148
 | 2=>450359962737049
 | 3=>900719925474099
 | 4=>1801439850948198
 | _=>0
theorem bxL_is:Is5 bxL bX:=⟨by unfold Lm;decide,by decide +kernel⟩
theorem byL_is:Is5 byL bY:=⟨by unfold Lm;decide,by decide +kernel⟩
theorem bp_of_reads {W : World} (h : Lib.VarReads Tryz.prog W "loop.example/g00004/impl.basePoint" Rows.laid_loop_example_g00004_impl_basePoint) : RowN W 1 0 [bX, bY] := row_of_reads bxL byL bX bY gBp tBp h bxL_is byL_is
theorem ba_ok:liB (4*iv 5) false=true:=by
 unfold liB
 rw [base_lift.1]
 simp
theorem ba_eq1:fill (byt (bX % PP)) 32=liX (4*iv 5) false:=by
 unfold liX
 rw [if_pos ba_ok,base_lift.2]
 simp
theorem ba_eq2:fill (byt (bY % PP)) 32=liY (4*iv 5) false:=by
 unfold liY
 rw [if_pos ba_ok,base_mod,← base_mod,Int.emod_emod_of_dvd _ (Int.dvd_refl _)]
end Go.Proofs.YtnpolopcgmjmnaaGreatDoor
namespace Go.Proofs.YtnpolopcgmjmnaaGreatDoor
set_option maxRecDepth 100000
open Go Go.RowKit
def en (p:Int × Int):List Int:=(ly p).set 31 ((ly p).getD 31 0+128*(p.1 % 2))
theorem lx_low (p:Int × Int):(lx p).getD 0 0 % 2=p.1 % 2:=by
 unfold lx
 rw [fill_get _ _ _ (by omega)]
 unfold byt
 simp only [Int.pow_zero,Int.ediv_one]
 omega
theorem ly_top {p:Int × Int} (h:Pv p):0≤(ly p).getD 31 0∧(ly p).getD 31 0 < 128:=by
 unfold ly
 rw [fill_get _ _ _ (by omega)]
 unfold byt
 have h0:=h.cn.y.1
 have h1:p.2 < 57896044618658097711785492504343953926634992332820282019728792003956564819968:=Int.lt_trans h.cn.y.2 (by decide)
 have e:(256:Int) ^ 31=452312848583266388373324160190187140051835877600158453279131187530910662656:=by decide
 rw [e]
 generalize p.2=y at *
 omega
theorem es_en {p:Int × Int} (h:Pv p):esA (lx p) (ly p)=en p:=by
 unfold esA en
 rw [if_pos (lv_valid h),lx_low]
theorem en_len (p:Int × Int):(en p).length=32:=by
 unfold en
 rw [List.length_set,ly_len]
theorem en_31 (p:Int × Int):(en p).getD 31 0=(ly p).getD 31 0+128*(p.1 % 2):=by
 unfold en
 generalize (ly p).getD 31 0+128*(p.1 % 2)=v
 rw [List.getD_eq_getElem?_getD,List.getElem?_set_self (by rw [ly_len];omega)]
 rfl
theorem set_getD {xs:List Int} {k:Nat} (h:k < xs.length):xs.set k (xs.getD k 0)=xs:=by
 rw [List.getD_eq_getElem?_getD,List.getElem?_eq_getElem h]
 exact List.set_getElem_self h
theorem en_low {p:Int × Int} (h:Pv p):low7s (en p)=ly p:=by
 have t:=ly_top h
 unfold low7s
 rw [en_31]
 have e:((ly p).getD 31 0+128*(p.1 % 2)) % 128=(ly p).getD 31 0:=by omega
 rw [e]
 unfold en
 rw [List.set_set]
 exact set_getD (by rw [ly_len];omega)
theorem en_odd {p:Int × Int} (h:Pv p):decide (128≤(en p).getD 31 0)=decide (p.1 % 2=1):=by
 have t:=ly_top h
 rw [en_31]
 by_cases c:p.1 % 2=1
 ·rw [decide_eq_true c]
  exact decide_eq_true (by omega)
 ·rw [decide_eq_false c]
  exact decide_eq_false (by omega)
theorem en_byt {p:Int × Int} (h:Pv p):Byt (en p):=fun j=>by
 by_cases c:j=31
 ·subst c
  have t:=ly_top h
  rw [en_31]
  omega
 ·unfold en
  rw [List.getD_eq_getElem?_getD,List.getElem?_set_ne (by omega),← List.getD_eq_getElem?_getD]
  exact ly_byt p j
theorem dec_en {p:Int × Int} (h:Pv p):dcB (en p)=true∧dcX (en p)=lx p∧dcY (en p)=ly p:=by
 have x0:=h.cn.x.1
 have x1:=h.cn.x.2
 have y0:=h.cn.y.1
 have y1:=h.cn.y.2
 have r:=lift_back (y:=p.2) x0 x1 h.on
 have L:liB p.2 (decide (p.1 % 2=1))=true:=by
  unfold liB
  rw [r.1,r.2]
  by_cases c:p.1 % 2=1
  ·rw [decide_eq_true c, if_neg (by omega), Int.emod_eq_of_lt (by omega) (by omega)]
   have:¬ (PP - p.1=0):=by omega
   rw [decide_eq_false this]
   rfl
  ·rw [decide_eq_false c]
   rfl
 have B:dcB (en p)=true:=by
  unfold dcB
  rw [en_low h,en_odd h,en_len,ly_num h,show canN (ly p)=true from can_fill y0 y1,L]
  rfl
 refine ⟨B,?_,?_⟩
 ·unfold dcX
  rw [if_pos B,en_low h,en_odd h,ly_num h]
  unfold liX
  rw [if_pos L,r.2]
  by_cases c:p.1 % 2=1
  ·rw [if_pos (decide_eq_true c), if_neg (by omega), show 0 - (PP - p.1) = p.1 + PP * (-1) by generalize PP = P; omega, Int.add_mul_emod_self_left, Int.emod_eq_of_lt x0 x1]
   rfl
  ·rw [if_neg (by simpa using c), if_pos (by omega), Int.emod_eq_of_lt x0 x1]
   rfl
 ·unfold dcY
  rw [if_pos B,en_low h,en_odd h,ly_num h]
  unfold liY
  rw [if_pos L,Int.emod_eq_of_lt y0 y1]
  rfl
theorem en_dec {b:List Int} (hb:Byt b) (h:dcB b=true):∃ p,Pv p∧dcX b=lx p∧dcY b=ly p∧en p=b:=by
 have h':=h
 unfold dcB at h'
 simp only [Bool.and_eq_true] at h'
 obtain ⟨hl,hc,hli⟩:=h'
 have hl:b.length=32:=of_decide_eq_true hl
 have b31:=hb 31
 have lb:Byt (low7s b):=low7_byt hb
 have y0:=num_ge lb
 have y1:=can_lt hc
 have fc:=fill_can lb hc
 rw [Int.emod_eq_of_lt y0 y1] at fc
 have l31:(low7s b).getD 31 0=b.getD 31 0 % 128:=by
  unfold low7s
  generalize b.getD 31 0 % 128=v
  rw [List.getD_eq_getElem?_getD,List.getElem?_set_self (by rw [hl];omega)]
  rfl
 have X:dcX b=liX (num (low7s b)) (decide (128≤b.getD 31 0)):=by unfold dcX;rw [if_pos h]
 have Y:dcY b=liY (num (low7s b)) (decide (128≤b.getD 31 0)):=by unfold dcY;rw [if_pos h]
 have sb:∀ v,v=b.getD 31 0→(low7s b).set 31 v=b:=fun v e=>by
  subst e
  unfold low7s
  rw [List.set_set]
  exact set_getD (by rw [hl];omega)
 generalize low7s b=l at *
 have ly_is:∀ x,ly (x,num l)=l:=fun x=>fc
 generalize num l=y at *
 unfold liX at X
 unfold liY at Y
 rw [if_pos hli] at X Y
 rw [Int.emod_eq_of_lt y0 y1] at Y
 unfold liB at hli
 simp only [Bool.and_eq_true] at hli
 obtain ⟨hr,hz⟩:=hli
 have on:=lift_on hr
 have bd:=rootV_bd (liftZ y)
 have ng:=on_neg on
 generalize rootV (liftZ y)=r at *
 obtain ⟨r0,r1,r2⟩:=bd
 by_cases c:128≤b.getD 31 0
 ·rw [decide_eq_true c] at hz X
  rw [if_pos rfl] at X
  have rz:r≠0:=fun e=>by
   subst e
   simp at hz
  have e:(0 - r) % PP=PP - r:=by
   rw [show 0 - r=(PP - r)+PP*(-1) by generalize PP=P;omega,Int.add_mul_emod_self_left]
   exact Int.emod_eq_of_lt (by generalize PP=P at *;omega) (by generalize PP=P at *;omega)
  rw [e] at X ng
  have od:(PP - r) % 2=1:=by
   have:PP % 2=1:=by decide
   generalize PP=P at *
   omega
  refine ⟨(PP - r,y),⟨ng,⟨by show 0≤PP - r;generalize PP=P at *;omega,by show PP - r < PP;generalize PP=P at *;omega⟩,⟨y0,y1⟩⟩,X,Y,?_⟩
  unfold en
  rw [ly_is]
  refine sb _ ?_
  show l.getD 31 0+128*((PP - r) % 2)=_
  rw [l31,od]
  omega
 ·rw [decide_eq_false c] at X
  rw [if_neg (by decide),Int.emod_eq_of_lt r0 r1] at X
  refine ⟨(r,y),⟨on,⟨r0,r1⟩,⟨y0,y1⟩⟩,X,Y,?_⟩
  unfold en
  rw [ly_is]
  refine sb _ ?_
  show l.getD 31 0+128*(r % 2)=_
  rw [l31,r2]
  omega
end Go.Proofs.YtnpolopcgmjmnaaGreatDoor
namespace Go.Proofs.YtnpolopcgmjmnaaGreatDoor
set_option maxRecDepth 100000
open Go Go.RowKit
theorem gdv {a:Act} {p:Nat} {v:Value} (h:a.tmps.getD p undef=v):a.tmps[p]?.getD undef=v:=by rw [← h];simp
section
variable {P : Program} {ops : Array Oper} {Q : Exit → Act → World → Prop} {md : Region.Mode} {F : Nat → Fact} {a0 : Act} {w0 : World}
theorem step_callv {i:Nat} {o:Oper} (hi:ops[i]?=some o) (n:FuncId) (args:Array Operand) (ts:Array TypeId) (hop:o.op = .call { callee := .value (.func n),args:=args,argTypes:=ts }) (he:enters P n=true)
  (G:∀ a w,Based ops a0 a→Below w0.heap.size w0 w→Facts md ops F i a w→Calls P n (args.toList.map a.eval).toArray w fun e w'=>∃ v,e = .returned v∧Below w.heap.size w w'∧(F i).p v w'):StepOk P md ops Q F a0 w0 i:=by
 intro o' ho' a w hb hw hf K hK
 obtain rfl:=Option.some.inj (hi.symm.trans ho')
 have hr:(execOp a.eval o).run P w = .ok (.enter n (args.map a.eval)) w:=by
  have h0:(Deferred.ofValue (Value.func (Fn.func n) #[] #[]) (args.map a.eval)).run P w = .ok { target := .fn (.func n) #[],args:=args.map a.eval } w:=by simp [Deferred.ofValue]
  simp [execOp,hop,resolve,invoke,Act.eval,h0,run_enter he]
 have e:args.map a.eval=(args.toList.map a.eval).toArray:=by cases args;simp
 unfold Oper.wp
 rw [hr,e,Oper.upon_enter]
 refine (G a w hb hw hf).mono ?_
 rintro e w' ⟨v,rfl,hn,hv⟩
 exact hK v w' hn hv
theorem region_put {id:Nat} {draw:Bool} {w:World} (k jD jV pD pV:Nat) (o:Oper) (F:Nat→Fact) (q off:Nat) (ty:TypeId) (cells:List Value) (hm:P.follows .mixedOrders=true) (hT:textOk .any ops a0.tmps.size k=true) (hk:ops[k]?=some o) (hd:o.dst=none)
  (hop:o.op = .store ty (.tmp pD) (.tmp pV)) (wD:writes ops jD pD=true) (FD:F jD=Fact.eq (.pointer (some ⟨q,off,none⟩))) (wV:writes ops jV pV=true) (FV:F jV=Fact.eq (.agg cells.toArray))
  (hth:∀ W,Below w.heap.size w W→W.there q off cells.length) (hi:(P.info? ty).map (·.size)=some cells.length) (h1:cells.toArray.all (·.oneCell')=true) (steps:∀ i,i < k→StepOk P .any ops Q F a0 w i)
  (fin:∀ (vs:Nat→Value) (W:World),Below w.heap.size w W→Q .normal (puts vs a0 ops.toList) (W.setCells q off cells)):(Code.region id ops draw).wp P Q a0 w:=by
 refine region_store k o F hm hT hk hd steps fun a W hb hw hF=>?_
 have e1:=hF jD pD wD
 have e2:=hF jV pV wV
 rw [FD] at e1
 rw [FV] at e2
 refine wp_store_mid ty (.tmp pD) (.tmp pV) hop q off cells.toArray e1 e2 (by rw [List.size_toArray];exact hth W hw) (by rw [List.size_toArray];exact hi) h1 ?_
 obtain ⟨vs,hvs⟩:∃ vs:Nat→Value,∀ d,a.tmps.getD d undef=vs d:=⟨_,fun _=>rfl⟩
 rw [hd]
 show Q .normal a _
 rw [puts_of hT rfl hb vs hvs]
 exact fin vs W hw
end
end Go.Proofs.YtnpolopcgmjmnaaGreatDoor
namespace Go.Proofs.YtnpolopcgmjmnaaGreatDoor
set_option maxRecDepth 100000
open Go.RowKit
theorem Rd.dropA {w:World} {g:Nat} {a:Option Addr} {k:IntKind} {xs:List Int} (h:Rd w g a k xs) (n:Nat) (hn:n < xs.length):∃ o,a=some ⟨g,o,none⟩∧Rd w g (some ⟨g,o+n,none⟩) k (xs.drop n):=by
 obtain ⟨o,rfl,hc⟩:=h (by omega)
 refine ⟨o,rfl,fun _=>⟨o+n,rfl,fun i hi=>?_⟩⟩
 rw [List.length_drop] at hi
 rw [Nat.add_assoc,hc (n+i) (by omega),List.getD_eq_getElem?_getD,List.getD_eq_getElem?_getD,List.getElem?_drop]
theorem Rd.takeA {w:World} {g:Nat} {a:Option Addr} {k:IntKind} {xs:List Int} (h:Rd w g a k xs) (n:Nat):Rd w g a k (xs.take n):=fun h0=>by
 rw [List.length_take] at h0
 obtain ⟨o,e,hc⟩:=h (by omega)
 refine ⟨o,e,fun i hi=>?_⟩
 rw [List.length_take] at hi
 rw [hc i (by omega),List.getD_eq_getElem?_getD,List.getD_eq_getElem?_getD,List.getElem?_take,if_pos (by omega)]
end Go.Proofs.YtnpolopcgmjmnaaGreatDoor
namespace Go.Proofs.YtnpolopcgmjmnaaGreatDoor
set_option maxRecDepth 100000
open Go Go.RowKit
section
variable {P : Program} {ops : Array Oper} {Q : Exit → Act → World → Prop} {a0 : Act}
end
end Go.Proofs.YtnpolopcgmjmnaaGreatDoor
