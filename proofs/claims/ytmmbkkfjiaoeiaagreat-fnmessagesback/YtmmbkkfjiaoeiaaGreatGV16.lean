import Derived.Test.YtmmbkkfjiaoeiaaGreatGV15
import Derived.Test.YtmmbkkfjiaoeiaaGreatGV6
import Derived.Test.YtmmbkkfjiaoeiaaGreatGV12
import Derived.Deep.MidRow
import Derived.Test.YtmmbkkfjiaoeiaaGreatGV14
namespace Go.Proofs.YtmmbkkfjiaoeiaaGreat
open Go Go.RowKit
theorem sameM_eq {m' m:Msg} (h:sameM m' m=true):m'=m:=by
 obtain ⟨k,v,r,s,ho,pr,ti,ag,ea,bi,rs,ce,pf⟩:=m
 obtain ⟨k',v',r',s',ho',pr',ti',ag',ea',bi',rs',ce',pf'⟩:=m'
 simp only [sameM,Bool.and_eq_true,decide_eq_true_eq] at h
 obtain ⟨h1,h2,h3,h4,h5,h6,h7,h8,h9,h10,h11,h12,h13⟩:=h
 subst h1 h2 h3 h4 h5 h6 h7 h8 h9 h10 h11 h12 h13
 rfl
theorem mf_same {m m':Msg} {f:Int} (hk:kfF m=some (m',f)) (h:mfF m=0):m'=m:=by
 unfold mfF at h
 rw [hk] at h
 by_cases c:sameM m' m=true
 ·exact sameM_eq c
 ·simp [c] at h
theorem he_rest {v:Int} {r s:Nat} {ho:List UInt8} {ls:List (List UInt8)} {t b:Nat} {g e:Int} (h:heF v r s ho ls t b g e=0):bdB t b g e=true∧ageB g=true∧flgB e=true:=by
 unfold heF at h
 by_cases h1:(fpB v r s || !bdB t b g e)=true
 ·rw [if_pos h1] at h;simp at h
 rw [if_neg h1] at h
 rw [Bool.not_eq_true,Bool.or_eq_false_iff] at h1
 by_cases h2:nameF ho≠0
 ·rw [if_pos h2] at h;simp at h
 rw [if_neg h2] at h
 by_cases h3:prB ls 8=false
 ·rw [if_pos h3] at h;simp at h
 rw [if_neg h3] at h
 by_cases h4:400 < t
 ·rw [if_pos h4] at h;simp at h
 rw [if_neg h4] at h
 by_cases h5:(!ageB g || !flgB e)=true
 ·rw [if_pos h5] at h;simp at h
 rw [Bool.not_eq_true,Bool.or_eq_false_iff] at h5
 exact ⟨by simpa using h1.2,by simpa using h5.1,by simpa using h5.2⟩
theorem age_rng {n:Int} (h:ageB n=true):0≤n∧n≤4294967295:=by simpa [ageB] using h
theorem flg_rng {n:Int} (h:flgB n=true):n=0∨n=1:=by simpa [flgB] using h
set_option maxHeartbeats 1000000 in
theorem rd_hello {m:Msg} (h:mfF m=0) (hk:m.k=1):rdHello (bodF m)=m:=by
 have kf:kfF m=some (helloM m,heF m.v m.r.length m.s.length m.ho m.pr m.ti.length m.bi.length m.ag m.ea):=by unfold kfF;exact if_pos hk
 have f0:=mf_zero kf h
 have sm:=mf_same kf h
 obtain ⟨⟨v0,v1⟩,hoL,prZ,_,_⟩:=he_all f0
 obtain ⟨⟨rl,sl⟩,tl,_⟩:=he_more f0
 have pl:=he_pr f0
 obtain ⟨bd,ag,fl⟩:=he_rest f0
 have agr:=age_rng ag
 have flr:=flg_rng fl
 have xe:bodF m=fpL m.v m.r m.s ++ (shL m.ho ++ (lsL m.pr ++ (loL m.ti ++ bdL m.ti m.ag m.ea m.bi))):=by unfold bodF;exact if_pos hk
 obtain ⟨xs,hx⟩:∃ xs,xs=bodF m:=⟨_,rfl⟩
 have A0:At xs 0 (fpL m.v m.r m.s ++ (shL m.ho ++ (lsL m.pr ++ (loL m.ti ++ bdL m.ti m.ag m.ea m.bi)))):=by rw [← xe,hx];exact At.self _
 rw [← hx]
 clear xe hx kf f0 ag fl h
 have a1:=A0.fst
 have e1:beN xs 0 1=m.v:=(At.fst (Y:=bigL m.v 1) a1).be v0 (by simp;omega)
 have a1s:=At.snd (Y:=bigL m.v 1) a1
 rw [bigL_len,Nat.zero_add] at a1s
 have e2:tkB xs 1 32=m.r:=a1s.fst.tk rl
 have e3:tkB xs 33 32=m.s:=by
  have:=a1s.snd
  rw [rl] at this
  exact this.tk sl
 have a2:=A0.snd
 rw [fpL_len,rl,sl] at a2
 have a2f:=a2.fst
 have e4:(beN xs 65 1).toNat=m.ho.length:=by
  rw [(At.fst (Y:=bigL (m.ho.length:Int) 1) a2f).be (by omega) (by simp;omega)]
  simp
 have e5:txB (tkB xs 66 m.ho.length)=m.ho:=by
  have:=At.snd (Y:=bigL (m.ho.length:Int) 1) a2f
  rw [bigL_len] at this
  rw [this.tk (txL_len' _),txB_txL]
 have shl:(shL m.ho).length=1+m.ho.length:=by simp [shL,bigL_len,txL]
 have a3:=a2.snd
 rw [shl] at a3
 have hA:hpA xs=66+m.ho.length:=by unfold hpA;rw [e4]
 have a3':At xs (hpA xs) (lsL m.pr ++ (loL m.ti ++ bdL m.ti m.ag m.ea m.bi)):=by
  rw [hA]
  rw [show (0+(32+32+1)+(1+m.ho.length):Nat)=66+m.ho.length by omega] at a3
  exact a3
 have a3f:=a3'.fst
 have e6:(xs.getD (hpA xs) 0).toNat=m.pr.length:=by
  have:=(At.fst (Y:=[(m.pr.length:Int)]) a3f).get (j:=0) (by simp)
  rw [Nat.add_zero] at this
  rw [this]
  simp
 have a3s:=At.snd (Y:=[(m.pr.length:Int)]) a3f
 obtain ⟨e7,e8⟩:=at_texts m.pr (hpA xs+1) a3s prZ
 have hB:hpB xs=hpA xs+1+(m.pr.map shL).flatten.length:=by unfold hpB;rw [e6,e8]
 have a4:=a3'.snd
 have lsl:(lsL m.pr).length=1+(m.pr.map shL).flatten.length:=by simp [lsL];omega
 rw [lsl,show hpA xs+(1+(m.pr.map shL).flatten.length)=hpB xs by omega] at a4
 have a4f:=a4.fst
 have e9:hpN xs=m.ti.length:=by
  unfold hpN
  rw [(At.fst (Y:=bigL (m.ti.length:Int) 2) a4f).be (by omega) (by simp;omega)]
  simp
 have e10:tkB xs (hpB xs+2) m.ti.length=m.ti:=by
  have:=At.snd (Y:=bigL (m.ti.length:Int) 2) a4f
  rw [bigL_len] at this
  exact this.tk rfl
 have a5:=a4.snd
 rw [loL_len] at a5
 have hC:hpC xs=hpB xs+2+m.ti.length:=by unfold hpC;rw [e9]
 have a5':At xs (hpC xs) (bdL m.ti m.ag m.ea m.bi):=by
  rw [hC]
  rw [show hpB xs+(m.ti.length+2)=hpB xs+2+m.ti.length by omega] at a5
  exact a5
 rw [← sm]
 show (⟨1,beN xs 0 1,tkB xs 1 32,tkB xs 33 32,txB (tkB xs 66 (beN xs 65 1).toNat),txT xs (hpA xs+1) (xs.getD (hpA xs) 0).toNat,tkB xs (hpB xs+2) (hpN xs),if hpN xs=0 then 0 else beN xs (hpC xs) 4,if hpN xs=0 then 0 else beN xs (hpC xs+4) 1,if hpN xs=0 then [] else tkB xs (hpC xs+5) 32,false,[],[]⟩:Msg)=⟨1,m.v,m.r,m.s,m.ho,m.pr,m.ti,m.ag,m.ea,m.bi,false,[],[]⟩
 rw [e1,e2,e3,e4,e5,e6,e7,e9,e10]
 by_cases t0:m.ti.length=0
 ·unfold bdB at bd
  rw [if_pos t0] at bd
  simp only [Bool.and_eq_true,decide_eq_true_eq] at bd
  rw [if_pos t0,if_pos t0,if_pos t0,bd.2.1,bd.2.2,List.length_eq_zero_iff.1 bd.1]
 ·unfold bdB at bd
  rw [if_neg t0,decide_eq_true_eq] at bd
  unfold bdL at a5'
  rw [if_neg t0] at a5'
  have f1:beN xs (hpC xs) 4=m.ag:=a5'.fst.be agr.1 (by simp;omega)
  have b1:=a5'.snd
  rw [bigL_len] at b1
  have f2:beN xs (hpC xs+4) 1=m.ea:=b1.fst.be (by omega) (by simp;omega)
  have b2:=b1.snd
  rw [bigL_len] at b2
  have f3:tkB xs (hpC xs+5) 32=m.bi:=b2.tk bd
  rw [if_neg t0,if_neg t0,if_neg t0,f1,f2,f3]
theorem be_one (xs:List Int) (i:Nat):beN xs i 1=xs.getD i 0:=by
 show (0:Int)*256+xs.getD (i+0) 0=_
 rw [Nat.add_zero]
 omega
theorem fp_v {v:Int} {r s:Nat} (h:fpF v r s=0):0≤v∧v≤255:=by
 unfold fpF at h
 by_cases c:fpB v r s=true
 ·rw [if_pos c] at h;simp at h
 ·exact fp_all (by simpa using c)
theorem rd_answer {m:Msg} (h:mfF m=0) (hk:m.k=2):rdAnswer (bodF m)=m:=by
 have kf:kfF m=some (answerM m,fpF m.v m.r.length m.s.length):=by unfold kfF;rw [if_neg (by omega),if_pos hk]
 have f0:=mf_zero kf h
 have sm:=mf_same kf h
 obtain ⟨v0,v1⟩:=fp_v f0
 obtain ⟨rl,sl⟩:=fp_more f0
 have xe:bodF m=fpL m.v m.r m.s ++ [if m.rs=true then 1 else 0]:=by unfold bodF;rw [if_neg (by omega),if_pos hk]
 obtain ⟨xs,hx⟩:∃ xs,xs=bodF m:=⟨_,rfl⟩
 have A0:At xs 0 (fpL m.v m.r m.s ++ [if m.rs=true then 1 else 0]):=by rw [← xe,hx];exact At.self _
 rw [← hx]
 clear xe hx kf f0 h
 have a1:=A0.fst
 have e1:beN xs 0 1=m.v:=(At.fst (Y:=bigL m.v 1) a1).be v0 (by simp;omega)
 have a1s:=At.snd (Y:=bigL m.v 1) a1
 rw [bigL_len,Nat.zero_add] at a1s
 have e2:tkB xs 1 32=m.r:=a1s.fst.tk rl
 have e3:tkB xs 33 32=m.s:=by
  have:=a1s.snd
  rw [rl] at this
  exact this.tk sl
 have a2:=A0.snd
 rw [fpL_len,rl,sl] at a2
 have e4:beN xs 65 1=if m.rs=true then 1 else 0:=by
  rw [be_one]
  exact a2.get (j:=0) (by simp)
 have e5:(beN xs 65 1 == 1)=m.rs:=by
  rw [e4]
  cases m.rs <;> simp
 rw [← sm]
 show (⟨2,beN xs 0 1,tkB xs 1 32,tkB xs 33 32,[],[],[],0,0,[],beN xs 65 1 == 1,[],[]⟩:Msg)=⟨2,m.v,m.r,m.s,[],[],[],0,0,[],m.rs,[],[]⟩
 rw [e1,e2,e3,e5]
theorem ti_rest {g e:Int} {r t:Nat} (h:tiF g e r t=0):ageB g=true∧ageB e=true:=by
 unfold tiF at h
 by_cases h1:r≠32
 ·rw [if_pos h1] at h;simp at h
 rw [if_neg h1] at h
 by_cases h2:t=0∨400 < t
 ·rw [if_pos h2] at h;simp at h
 rw [if_neg h2] at h
 by_cases h5:(!ageB g || !ageB e)=true
 ·rw [if_pos h5] at h;simp at h
 rw [Bool.not_eq_true,Bool.or_eq_false_iff] at h5
 exact ⟨by simpa using h5.1,by simpa using h5.2⟩
theorem rd_ticket {m:Msg} (h:mfF m=0) (hk:m.k=4):rdTicket (bodF m)=m:=by
 have kf:kfF m=some (ticketM m,tiF m.ag m.ea m.r.length m.ti.length):=by unfold kfF;rw [if_neg (by omega),if_neg (by omega),if_pos hk]
 have f0:=mf_zero kf h
 have sm:=mf_same kf h
 obtain ⟨rl,tl⟩:=ti_more f0
 have g1:=age_rng (ti_rest f0).1
 have g2:=age_rng (ti_rest f0).2
 have xe:bodF m=bigL m.ag 4 ++ (bigL m.ea 4 ++ (m.r ++ loL m.ti)):=by
  unfold bodF tkL
  rw [if_neg (by omega),if_neg (by omega),if_pos hk]
  simp [List.append_assoc]
 obtain ⟨xs,hx⟩:∃ xs,xs=bodF m:=⟨_,rfl⟩
 have A0:At xs 0 (bigL m.ag 4 ++ (bigL m.ea 4 ++ (m.r ++ loL m.ti))):=by rw [← xe,hx];exact At.self _
 rw [← hx]
 clear xe hx kf f0 h
 have e1:beN xs 0 4=m.ag:=A0.fst.be g1.1 (by simp;omega)
 have a1:=A0.snd
 rw [bigL_len,Nat.zero_add] at a1
 have e2:beN xs 4 4=m.ea:=a1.fst.be g2.1 (by simp;omega)
 have a2:=a1.snd
 rw [bigL_len] at a2
 have e3:tkB xs 8 32=m.r:=a2.fst.tk rl
 have a3:=a2.snd
 rw [rl] at a3
 have e4:(beN xs 40 2).toNat=m.ti.length:=by
  rw [(At.fst (Y:=bigL (m.ti.length:Int) 2) a3).be (by omega) (by simp;omega)]
  simp
 have e5:tkB xs 42 m.ti.length=m.ti:=by
  have:=At.snd (Y:=bigL (m.ti.length:Int) 2) a3
  rw [bigL_len] at this
  exact this.tk rfl
 rw [← sm]
 show (⟨4,0,tkB xs 8 32,[],[],[],tkB xs 42 (beN xs 40 2).toNat,beN xs 0 4,beN xs 4 4,[],false,[],[]⟩:Msg)=⟨4,0,m.r,[],[],[],m.ti,m.ag,m.ea,[],false,[],[]⟩
 rw [e1,e2,e3,e4,e5]
theorem rd_end {m:Msg} (h:mfF m=0) (hk:m.k=5):rdEnd (bodF m)=m:=by
 have kf:kfF m=some (endM m,0):=by unfold kfF;rw [if_neg (by omega),if_neg (by omega),if_neg (by omega),if_pos hk]
 exact mf_same kf h
theorem rd_extras {m:Msg} (h:mfF m=0) (hk:m.k=8):rdExtras (bodF m)=m:=by
 have kf:kfF m=some (extrasM m,exF m.pr m.ea):=by unfold kfF;rw [if_neg (by omega),if_neg (by omega),if_neg (by omega),if_neg (by omega),if_pos hk]
 have f0:=mf_zero kf h
 have sm:=mf_same kf h
 obtain ⟨pz,⟨e0,e1⟩⟩:=ex_all f0
 have xe:bodF m=lsL m.pr ++ bigL m.ea 1:=by unfold bodF;rw [if_neg (by omega),if_neg (by omega),if_neg (by omega),if_neg (by omega),if_pos hk]
 obtain ⟨xs,hx⟩:∃ xs,xs=bodF m:=⟨_,rfl⟩
 have A0:At xs 0 (lsL m.pr ++ bigL m.ea 1):=by rw [← xe,hx];exact At.self _
 rw [← hx]
 clear xe hx kf f0 h
 have a1:=A0.fst
 have e6:(xs.getD 0 0).toNat=m.pr.length:=by
  have:=(At.fst (Y:=[(m.pr.length:Int)]) a1).get (j:=0) (by simp)
  rw [Nat.add_zero] at this
  rw [this]
  simp
 have a1s:=At.snd (Y:=[(m.pr.length:Int)]) a1
 obtain ⟨e7,e8⟩:=at_texts m.pr (0+1) a1s pz
 have a2:=A0.snd
 have lsl:(lsL m.pr).length=1+(m.pr.map shL).flatten.length:=by simp [lsL];omega
 rw [lsl] at a2
 rw [Nat.zero_add] at e7 e8 a2
 have e9:beN xs (ppT xs 1 m.pr.length) 1=m.ea:=by
  rw [e8]
  exact a2.be e0 (by simp;omega)
 rw [← sm]
 show (⟨8,0,[],[],[],txT xs 1 (xs.getD 0 0).toNat,[],0,beN xs (ppT xs 1 (xs.getD 0 0).toNat) 1,[],false,[],[]⟩:Msg)=⟨8,0,[],[],[],m.pr,[],0,m.ea,[],false,[],[]⟩
 rw [e6,e7,e9]
theorem rd_certs {m:Msg} (h:mfF m=0) (hk:m.k=11):rdCerts (bodF m)=m:=by
 have kf:kfF m=some (certsM m,ceF m.ce):=by unfold kfF;rw [if_neg (by omega),if_neg (by omega),if_neg (by omega),if_neg (by omega),if_neg (by omega),if_pos hk]
 have f0:=mf_zero kf h
 have sm:=mf_same kf h
 have cz:=ce_more f0
 have xe:bodF m=clL m.ce:=by unfold bodF;rw [if_neg (by omega),if_neg (by omega),if_neg (by omega),if_neg (by omega),if_neg (by omega),if_pos hk]
 obtain ⟨xs,hx⟩:∃ xs,xs=bodF m:=⟨_,rfl⟩
 have A0:At xs 0 (clL m.ce):=by rw [← xe,hx];exact At.self _
 rw [← hx]
 clear xe hx kf f0 h
 have e6:(xs.getD 0 0).toNat=m.ce.length:=by
  have:=(At.fst (Y:=[(m.ce.length:Int)]) A0).get (j:=0) (by simp)
  rw [Nat.add_zero] at this
  rw [this]
  simp
 have a1s:=At.snd (Y:=[(m.ce.length:Int)]) A0
 obtain ⟨e7,e8⟩:=at_lists m.ce (0+1) a1s (fun l hl=>by
  obtain ⟨i,hi,rfl⟩:=List.mem_iff_getElem.1 hl
  have:=cz i hi
  rw [List.getD_eq_getElem?_getD,List.getElem?_eq_getElem hi,Option.getD_some] at this
  omega)
 rw [Nat.zero_add] at e7
 rw [← sm]
 show (⟨11,0,[],[],[],[],[],0,0,[],false,clT xs 1 (xs.getD 0 0).toNat,[]⟩:Msg)=⟨11,0,[],[],[],[],[],0,0,[],false,m.ce,[]⟩
 rw [e6,e7]
theorem pf_len {n k:Nat} (h:pfF n k=0):k=n:=by
 unfold pfF at h
 by_cases c:k=n
 ·exact c
 ·rw [if_pos c] at h;simp at h
theorem rd_proof {m:Msg} (h:mfF m=0) (hk:m.k=15):rdProof (bodF m)=m:=by
 have kf:kfF m=some (proofM m,pfF 64 m.pf.length):=by unfold kfF;rw [if_neg (by omega),if_neg (by omega),if_neg (by omega),if_neg (by omega),if_neg (by omega),if_neg (by omega),if_pos hk]
 have l:=pf_len (mf_zero kf h)
 have sm:=mf_same kf h
 have xe:bodF m=m.pf:=by unfold bodF;rw [if_neg (by omega),if_neg (by omega),if_neg (by omega),if_neg (by omega),if_neg (by omega),if_neg (by omega),if_pos hk]
 have e:=(At.self m.pf).tk l
 rw [xe]
 conv=>rhs;rw [← sm]
 show (⟨15,0,[],[],[],[],[],0,0,[],false,[],tkB m.pf 0 64⟩:Msg)=⟨15,0,[],[],[],[],[],0,0,[],false,[],m.pf⟩
 rw [e]
theorem rd_finished {m:Msg} (h:mfF m=0) (hk:m.k=20):rdFinished (bodF m)=m:=by
 have kf:kfF m=some (finishedM m,pfF 32 m.pf.length):=by unfold kfF;rw [if_neg (by omega),if_neg (by omega),if_neg (by omega),if_neg (by omega),if_neg (by omega),if_neg (by omega),if_neg (by omega),if_pos hk]
 have l:=pf_len (mf_zero kf h)
 have sm:=mf_same kf h
 have xe:bodF m=m.pf:=by unfold bodF;rw [if_neg (by omega),if_neg (by omega),if_neg (by omega),if_neg (by omega),if_neg (by omega),if_neg (by omega),if_neg (by omega),if_pos hk]
 have e:=(At.self m.pf).tk l
 rw [xe]
 conv=>rhs;rw [← sm]
 show (⟨20,0,[],[],[],[],[],0,0,[],false,[],tkB m.pf 0 32⟩:Msg)=⟨20,0,[],[],[],[],[],0,0,[],false,[],m.pf⟩
 rw [e]
theorem rd_update {m:Msg} (h:mfF m=0) (hk:m.k=24):rdUpdate (bodF m)=m:=by
 have kf:kfF m=some (updateM m,upF m.ea):=by unfold kfF;rw [if_neg (by omega),if_neg (by omega),if_neg (by omega),if_neg (by omega),if_neg (by omega),if_neg (by omega),if_neg (by omega),if_neg (by omega),if_pos hk]
 obtain ⟨e0,e1⟩:=up_all (mf_zero kf h)
 have sm:=mf_same kf h
 have xe:bodF m=bigL m.ea 1:=by unfold bodF;rw [if_neg (by omega),if_neg (by omega),if_neg (by omega),if_neg (by omega),if_neg (by omega),if_neg (by omega),if_neg (by omega),if_neg (by omega),if_pos hk]
 have e:=(At.self (bigL m.ea 1)).be e0 (by simp;omega)
 rw [xe]
 conv=>rhs;rw [← sm]
 show (⟨24,0,[],[],[],[],[],0,beN (bigL m.ea 1) 0 1,[],false,[],[]⟩:Msg)=⟨24,0,[],[],[],[],[],0,m.ea,[],false,[],[]⟩
 rw [e]
theorem mf_kind {m:Msg} (h:mfF m=0):m.k=1∨m.k=2∨m.k=4∨m.k=5∨m.k=8∨m.k=11∨m.k=15∨m.k=20∨m.k=24:=by
 by_cases c:m.k=1∨m.k=2∨m.k=4∨m.k=5∨m.k=8∨m.k=11∨m.k=15∨m.k=20∨m.k=24
 ·exact c
 ·have kf : kfF m = none := by
   unfold kfF
   rw [if_neg (by omega),if_neg (by omega),if_neg (by omega),if_neg (by omega),if_neg (by omega),if_neg (by omega),if_neg (by omega),if_neg (by omega),if_neg (by omega)]
  unfold mfF at h
  rw [kf] at h
  simp at h
theorem rd_bod {m:Msg} (h:mfF m=0):rdM m.k (bodF m)=m:=by
 unfold rdM
 rcases mf_kind h with k | k | k | k | k | k | k | k | k
 ·rw [if_pos k];exact rd_hello h k
 ·rw [if_neg (by omega),if_pos k];exact rd_answer h k
 ·rw [if_neg (by omega),if_neg (by omega),if_pos k];exact rd_ticket h k
 ·rw [if_neg (by omega),if_neg (by omega),if_neg (by omega),if_pos k];exact rd_end h k
 ·rw [if_neg (by omega),if_neg (by omega),if_neg (by omega),if_neg (by omega),if_pos k];exact rd_extras h k
 ·rw [if_neg (by omega),if_neg (by omega),if_neg (by omega),if_neg (by omega),if_neg (by omega),if_pos k];exact rd_certs h k
 ·rw [if_neg (by omega),if_neg (by omega),if_neg (by omega),if_neg (by omega),if_neg (by omega),if_neg (by omega),if_pos k];exact rd_proof h k
 ·rw [if_neg (by omega),if_neg (by omega),if_neg (by omega),if_neg (by omega),if_neg (by omega),if_neg (by omega),if_neg (by omega),if_pos k];exact rd_finished h k
 ·rw [if_neg (by omega),if_neg (by omega),if_neg (by omega),if_neg (by omega),if_neg (by omega),if_neg (by omega),if_neg (by omega),if_neg (by omega)];exact rd_update h k
end Go.Proofs.YtmmbkkfjiaoeiaaGreat
namespace Go.Proofs.YtmmbkkfjiaoeiaaGreat
open Go Go.RowKit
def dmP (ys:List Int):Int:=if ys.length=0 then 1 else if ys.getD 0 0 ∉ kinds then 2 else if ys.length < 4 then 1 else if 8192 < beN ys 1 3 then 2 else if (ys.length:Int) < 4+beN ys 1 3 then 1 else 0
def dmN (ys:List Int):Nat:=(beN ys 1 3).toNat
def dmX (ys:List Int):List Int:=(ys.drop 4).take (dmN ys)
def dmM (ys:List Int):Msg:=rdM (ys.getD 0 0) (dmX ys)
def dmG (ys:List Int):Bool:=decide (mfF (dmM ys)=0∧bodF (dmM ys)=dmX ys)
def dmC (xs:List Int) (i:Int):Int:=if i < 0∨(xs.length:Int) < i then 2 else if dmP (xs.drop i.toNat)≠0 then dmP (xs.drop i.toNat) else if dmG (xs.drop i.toNat)=true then 0 else 3
def dmR (xs:List Int) (i:Int):Msg:=if dmC xs i=0 then dmM (xs.drop i.toNat) else msg0
def dmE (xs:List Int) (i:Int):Int:=if dmC xs i=0 then i+4+(dmN (xs.drop i.toNat):Int) else 0
def rsV (cd:Int) (p:MQ) (m:Msg) (n:Int):Array Value := #[.int .i64 cd,.int .i64 m.k,.int .i64 m.v,.slice p.a2 m.r.length p.c2,.slice p.a3 m.s.length p.c3,.string ⟨⟨m.ho⟩⟩,.slice p.a5 m.pr.length p.c5,.slice p.a6 m.ti.length p.c6,.int .i64 m.ag,.int .i64 m.ea,.slice p.a9 m.bi.length p.c9,.bool m.rs,.slice p.a11 m.ce.length p.c11,.slice p.a12 m.pf.length p.c12,.int .i64 n]
theorem isM0:IsM msg0:=⟨byt_nil,byt_nil,byt_nil,byt_nil,byt_nil,fun i hi=>absurd hi (by simp [msg0]),by simp [msg0],by simp [msg0],by simp [msg0],by simp [msg0],by simp [msg0],by simp [msg0],by simp [msg0],fun i hi=>absurd hi (by simp [msg0]),by simp [msg0],fun l hl=>absurd hl (by simp [msg0])⟩
theorem hasM0 (w:World):HasM w mq0 msg0:=⟨rd0 _ _ _ _,rd0 _ _ _ _,rdT0 _ _ _,rd0 _ _ _ _,rd0 _ _ _ _,rdL0 _ _ _ _,rd0 _ _ _ _,Nat.zero_le _⟩
theorem byt_takeQ {xs:List Int} (h:Byt xs) (n:Nat):Byt (xs.take n):=fun i=>by
 rw [List.getD_eq_getElem?_getD,List.getElem?_take]
 split
 ·rw [← List.getD_eq_getElem?_getD];exact h _
 ·simp
theorem dmX_byt {ys:List Int} (h:Byt ys):Byt (dmX ys):=byt_takeQ (byt_drop h 4) _
theorem txL_byt (l:List UInt8):Byt (txL l):=fun i=>by
  rw [List.getD_eq_getElem?_getD]
  unfold txL
  rw [List.getElem?_map]
  cases l[i]? with
  | none=>simp
  | some u =>
    have:=u.toNat_lt
    simp
    omega
theorem byt_flat {ls:List (List Int)} (h:∀ l ∈ ls,Byt l):Byt ls.flatten:=by
  induction ls with
  | nil=>exact byt_nil
  | cons l ls ih =>
    rw [List.flatten_cons]
    exact byt_apd (h l (by simp)) (ih fun x hx=>h x (by simp [hx]))
theorem byt_lsL {ls:List (List UInt8)} (h:ls.length < 256):Byt (lsL ls):=by
 refine byt_apd (byt_cons (by omega) (by omega) byt_nil) (byt_flat fun l hl=>?_)
 obtain ⟨t,_,rfl⟩:=List.mem_map.1 hl
 exact byt_apd (bigL_byt _ _) (txL_byt _)
theorem byt_loL {l:List Int} (h:Byt l):Byt (loL l):=byt_apd (bigL_byt _ _) h
theorem byt_clL {bs:List (List Int)} (n:bs.length < 256) (h:∀ i,i < bs.length→Byt (bs.getD i [])):Byt (clL bs):=by
 refine byt_apd (byt_cons (by omega) (by omega) byt_nil) (byt_flat fun l hl=>?_)
 obtain ⟨t,ht,rfl⟩:=List.mem_map.1 hl
 obtain ⟨i,hi,rfl⟩:=List.mem_iff_getElem.1 ht
 have:=h i hi
 rw [List.getD_eq_getElem?_getD,List.getElem?_eq_getElem hi] at this
 exact byt_loL this
theorem byt_fpL {v:Int} {r s:List Int} (h1:Byt r) (h2:Byt s):Byt (fpL v r s):=byt_apd (bigL_byt _ _) (byt_apd h1 h2)
theorem byt_bod {m:Msg} (i:IsM m) (n5:m.pr.length < 256) (n11:m.ce.length < 256):Byt (bodF m):=by
 unfold bodF
 split
 ·refine byt_apd (byt_fpL i.rB i.sB) (byt_apd (byt_apd (bigL_byt _ _) (txL_byt _)) (byt_apd (byt_lsL n5) (byt_apd (byt_loL i.tiB) ?_)))
  unfold bdL
  split
  ·exact byt_nil
  ·exact byt_apd (bigL_byt _ _) (byt_apd (bigL_byt _ _) i.biB)
 split
 ·refine byt_apd (byt_fpL i.rB i.sB) (byt_cons ?_ ?_ byt_nil) <;> split <;> omega
 split
 ·exact byt_apd (byt_apd (byt_apd (bigL_byt _ _) (bigL_byt _ _)) i.rB) (byt_loL i.tiB)
 split
 ·exact byt_nil
 split
 ·exact byt_apd (byt_lsL n5) (bigL_byt _ _)
 split
 ·exact byt_clL n11 i.ceB
 split
 ·exact i.pfB
 split
 ·exact i.pfB
 split
 ·exact bigL_byt _ _
 ·exact byt_nil
theorem rd_few {xs:List Int} (hb:Byt xs) (k:Int):(rdM k xs).pr.length < 256∧(rdM k xs).ce.length < 256:=by
 have h0:=bx1 hb 0
 have h1:=bx1 hb (hpA xs)
 unfold rdM
 repeat' split
 all_goals simp only [rdHello,rdAnswer,rdTicket,rdEnd,rdExtras,rdCerts,rdProof,rdFinished,rdUpdate,txT_len,clT_len,List.length_nil]
 all_goals omega
theorem byt_rd {xs:List Int} (hb:Byt xs) (k:Int):Byt (bodF (rdM k xs)):=byt_bod (isM_rd hb k) (rd_few hb k).1 (rd_few hb k).2
theorem rd_k {xs:List Int} {k:Int} (hk:k ∈ kinds):(rdM k xs).k=k:=by
 have:k=1∨k=2∨k=4∨k=5∨k=8∨k=11∨k=15∨k=20∨k=24:=by simpa [kinds] using hk
 rcases this with e | e | e | e | e | e | e | e | e <;> subst e <;> rfl
theorem byt_enc {m:Msg} (k0:0≤m.k) (k1:m.k < 256) (h:Byt (bodF m)):Byt (encF m):=by
 unfold encF
 split
 ·exact byt_apd (byt_apd (byt_cons k0 k1 byt_nil) (bigL_byt _ _)) h
 ·exact byt_nil
theorem four:∀ {ys:List Int},¬ ys.length < 4→∃ a b c d t,ys=a :: b :: c :: d :: t
 | a :: b :: c :: d :: t,_=>⟨a,b,c,d,t,rfl⟩
 | [],h=>absurd (by simp) h
 | [_],h=>absurd (by simp) h
 | [_,_],h=>absurd (by simp) h
 | [_,_,_],h=>absurd (by simp) h
theorem enc_eq {ys : List Int} (hb : Byt ys) (hp : dmP ys = 0) (f0 : mfF (dmM ys) = 0) : encF (dmM ys) = ys.take (4 + dmN ys) ↔ bodF (dmM ys) = dmX ys := by
 unfold dmP at hp
 split at hp
 ·simp at hp
 split at hp
 ·simp at hp
 rename_i hk
 split at hp
 ·simp at hp
 split at hp
 ·simp at hp
 split at hp
 ·simp at hp
 rename_i hl4 h8 hl
 have hk:ys.getD 0 0 ∈ kinds:=Decidable.not_not.1 hk
 have n0:=beN_rng hb 1 3
 have en:beN ys 1 3=(dmN ys:Int):=by unfold dmN;omega
 have e4:ys.take (4+dmN ys)=[ys.getD 0 0] ++ bigL (dmN ys:Int) 3 ++ dmX ys:=by
  have e:ys.take (4+dmN ys)=ys.take 4 ++ dmX ys:=by rw [List.take_add];rfl
  rw [e]
  have e0:ys.take 4=[ys.getD 0 0] ++ bigL (dmN ys:Int) 3:=by
   rw [← en]
   obtain ⟨a,b,c,d,t,rfl⟩:=four hl4
   have hb':0≤b∧b < 256:=hb 1
   have hc':0≤c∧c < 256:=hb 2
   have hd':0≤d∧d < 256:=hb 3
   have e1:beN (a :: b :: c :: d :: t) 1 3=(b*256+c)*256+d:=by
    show ((0*256+b)*256+c)*256+d=_
    omega
   rw [e1]
   have eb:∀ v:Int,bigL v 3=[v / 65536 % 256,v / 256 % 256,v % 256]:=fun v=>by simp [bigL,List.range_succ]
   rw [eb]
   have q1:((b*256+c)*256+d) / 65536 % 256=b:=by omega
   have q2:((b*256+c)*256+d) / 256 % 256=c:=by omega
   have q3:((b*256+c)*256+d) % 256=d:=by omega
   rw [q1,q2,q3]
   rfl
  rw [e0]
 have lx:(dmX ys).length=dmN ys:=by
  unfold dmX
  rw [List.length_take,List.length_drop]
  omega
 have ek:(dmM ys).k=ys.getD 0 0:=rd_k hk
 unfold encF
 rw [if_pos f0,e4,ek]
 unfold enL
 constructor
 ·intro h
  have:=congrArg (List.drop 4) h
  have d4:∀ (k n:Int) (b:List Int),List.drop 4 ([k] ++ bigL n 3 ++ b)=b:=fun k n b=>by
   rw [List.drop_append_of_le_length (by simp [bigL_len]),List.drop_eq_nil_of_le (by simp [bigL_len]),List.nil_append]
  rwa [d4,d4] at this
 ·intro h
  rw [h,lx]
end Go.Proofs.YtmmbkkfjiaoeiaaGreat
namespace Go.Proofs.YtmmbkkfjiaoeiaaGreat
open Go Go.RowKit
theorem enc_is {m:Msg} (h:mfF m=0):encF m=[m.k] ++ (bigL ((bodF m).length:Int) 3 ++ bodF m):=by
 unfold encF enL
 rw [if_pos h,List.append_assoc]
theorem enc_len {m:Msg} (h:mfF m=0):(encF m).length=4+(bodF m).length:=by
 rw [enc_is h]
 simp only [List.length_append,bigL_len,List.length_cons,List.length_nil]
 omega
theorem mf_kinds {m:Msg} (h:mfF m=0):m.k ∈ kinds:=by
 rcases mf_kind h with k | k | k | k | k | k | k | k | k <;> rw [k] <;> decide
theorem dm_enc {m:Msg} (h:mfF m=0) (Z:List Int):dmP (encF m ++ Z)=0∧dmN (encF m ++ Z)=(bodF m).length∧dmM (encF m ++ Z)=m∧dmG (encF m ++ Z)=true:=by
 have A:At (encF m ++ Z) 0 ([m.k] ++ (bigL ((bodF m).length:Int) 3 ++ bodF m)):=by
  rw [← enc_is h]
  exact ⟨[],Z,rfl,by simp⟩
 have bl:=bod_le m h
 have ln:(encF m ++ Z).length=4+(bodF m).length+Z.length:=by rw [List.length_append,enc_len h]
 have g0:(encF m ++ Z).getD 0 0=m.k:=by
  have:=A.fst.get (j:=0) (by simp)
  simpa using this
 have a1:=A.snd
 have b3:beN (encF m ++ Z) 1 3=((bodF m).length:Int):=by
  have:=a1.fst
  simp only [List.length_cons,List.length_nil,Nat.zero_add] at this
  exact this.be (by omega) (by simp;omega)
 have n3:dmN (encF m ++ Z)=(bodF m).length:=by unfold dmN;rw [b3];simp
 have x:dmX (encF m ++ Z)=bodF m:=by
  unfold dmX
  rw [n3,enc_is h]
  have e:([m.k] ++ (bigL ((bodF m).length:Int) 3 ++ bodF m) ++ Z)=([m.k] ++ bigL ((bodF m).length:Int) 3) ++ (bodF m ++ Z):=by simp [List.append_assoc]
  rw [e,List.drop_left' (by simp [bigL_len]),List.take_left']
  rfl
 have mm:dmM (encF m ++ Z)=m:=by unfold dmM;rw [g0,x,rd_bod h]
 refine ⟨?_,n3,mm,?_⟩
 ·unfold dmP
  rw [if_neg (by omega),if_neg (by rw [g0];exact fun c=>c (mf_kinds h)),if_neg (by omega),if_neg (by rw [b3];omega),if_neg (by rw [b3,ln];omega)]
 ·unfold dmG
  rw [mm,x]
  exact decide_eq_true ⟨h,rfl⟩
theorem few_M {m:Msg} (h:mfF m=0):m.pr.length < 256∧m.ce.length < 256:=by
 rcases mf_kind h with k | k | k | k | k | k | k | k | k
 ·have kf : kfF m = some (helloM m, heF m.v m.r.length m.s.length m.ho m.pr m.ti.length m.bi.length m.ag m.ea) := by unfold kfF; rw [if_pos k]
  have sm:=mf_same kf h
  have f0:=mf_zero kf h
  exact ⟨by have:=he_pr f0;omega,by rw [← sm];show ([]:List (List Int)).length < 256;decide⟩
 ·have kf : kfF m = some (answerM m, fpF m.v m.r.length m.s.length) := by unfold kfF; rw [if_neg (by omega)]; rw [if_pos k]
  have sm:=mf_same kf h
  exact ⟨by rw [← sm];show ([]:List (List UInt8)).length < 256;decide,by rw [← sm];show ([]:List (List Int)).length < 256;decide⟩
 ·have kf : kfF m = some (ticketM m, tiF m.ag m.ea m.r.length m.ti.length) := by unfold kfF; rw [if_neg (by omega)]; rw [if_neg (by omega)]; rw [if_pos k]
  have sm:=mf_same kf h
  exact ⟨by rw [← sm];show ([]:List (List UInt8)).length < 256;decide,by rw [← sm];show ([]:List (List Int)).length < 256;decide⟩
 ·have kf : kfF m = some (endM m, 0) := by unfold kfF; rw [if_neg (by omega)]; rw [if_neg (by omega)]; rw [if_neg (by omega)]; rw [if_pos k]
  have sm:=mf_same kf h
  exact ⟨by rw [← sm];show ([]:List (List UInt8)).length < 256;decide,by rw [← sm];show ([]:List (List Int)).length < 256;decide⟩
 ·have kf : kfF m = some (extrasM m, exF m.pr m.ea) := by unfold kfF; rw [if_neg (by omega)]; rw [if_neg (by omega)]; rw [if_neg (by omega)]; rw [if_neg (by omega)]; rw [if_pos k]
  have sm:=mf_same kf h
  have f0:=mf_zero kf h
  exact ⟨by have:=ex_pr f0;omega,by rw [← sm];show ([]:List (List Int)).length < 256;decide⟩
 ·have kf : kfF m = some (certsM m, ceF m.ce) := by unfold kfF; rw [if_neg (by omega)]; rw [if_neg (by omega)]; rw [if_neg (by omega)]; rw [if_neg (by omega)]; rw [if_neg (by omega)]; rw [if_pos k]
  have sm:=mf_same kf h
  have f0:=mf_zero kf h
  exact ⟨by rw [← sm];show ([]:List (List UInt8)).length < 256;decide,by have:=ce_n f0;omega⟩
 ·have kf : kfF m = some (proofM m, pfF 64 m.pf.length) := by unfold kfF; rw [if_neg (by omega)]; rw [if_neg (by omega)]; rw [if_neg (by omega)]; rw [if_neg (by omega)]; rw [if_neg (by omega)]; rw [if_neg (by omega)]; rw [if_pos k]
  have sm:=mf_same kf h
  exact ⟨by rw [← sm];show ([]:List (List UInt8)).length < 256;decide,by rw [← sm];show ([]:List (List Int)).length < 256;decide⟩
 ·have kf : kfF m = some (finishedM m, pfF 32 m.pf.length) := by unfold kfF; rw [if_neg (by omega)]; rw [if_neg (by omega)]; rw [if_neg (by omega)]; rw [if_neg (by omega)]; rw [if_neg (by omega)]; rw [if_neg (by omega)]; rw [if_neg (by omega)]; rw [if_pos k]
  have sm:=mf_same kf h
  exact ⟨by rw [← sm];show ([]:List (List UInt8)).length < 256;decide,by rw [← sm];show ([]:List (List Int)).length < 256;decide⟩
 ·have kf : kfF m = some (updateM m, upF m.ea) := by unfold kfF; rw [if_neg (by omega)]; rw [if_neg (by omega)]; rw [if_neg (by omega)]; rw [if_neg (by omega)]; rw [if_neg (by omega)]; rw [if_neg (by omega)]; rw [if_neg (by omega)]; rw [if_neg (by omega)]; rw [if_pos k]
  have sm:=mf_same kf h
  exact ⟨by rw [← sm];show ([]:List (List UInt8)).length < 256;decide,by rw [← sm];show ([]:List (List Int)).length < 256;decide⟩
theorem enc_bytM {m:Msg} (h:mfF m=0) (i:IsM m):Byt (encF m):=by
 have k:=mf_kind h
 exact byt_enc (by omega) (by omega) (byt_bod i (few_M h).1 (few_M h).2)
theorem rdM_k {k:Int} (h:k ∈ kinds) (xs:List Int):(rdM k xs).k=k:=by
 have hk:k=1∨k=2∨k=4∨k=5∨k=8∨k=11∨k=15∨k=20∨k=24:=by simpa [kinds] using h
 rcases hk with rfl | rfl | rfl | rfl | rfl | rfl | rfl | rfl | rfl <;> rfl
theorem dm_back {m:Msg} (h:mfF m=0):dmC ([1,2] ++ encF m) 2=0∧dmR ([1,2] ++ encF m) 2=m∧dmE ([1,2] ++ encF m) 2=((encF m).length:Int)+2:=by
 obtain ⟨e1,e2,e3,e4⟩:=dm_enc h []
 rw [List.append_nil] at e1 e2 e3 e4
 have d:(([1,2] ++ encF m:List Int)).drop (2:Int).toNat=encF m:=by show ([1,2] ++ encF m:List Int).drop 2=_;simp
 have ln:(([1,2] ++ encF m:List Int)).length=(encF m).length+2:=by simp
 have c:dmC ([1,2] ++ encF m) 2=0:=by
  unfold dmC
  rw [d,if_neg (by rw [ln];omega),if_neg (by rw [e1];simp),if_pos e4]
 refine ⟨c,?_,?_⟩
 ·unfold dmR
  rw [if_pos c,d,e3]
 ·unfold dmE
  rw [if_pos c,d,e2,enc_len h]
  omega
theorem big3 {ys:List Int} (hb:Byt ys) (h:4≤ys.length):[ys.getD 0 0] ++ bigL (beN ys 1 3) 3=ys.take 4:=by
  match ys,h with
  | y0 :: y1 :: y2 :: y3 :: Z, _ =>
    have h1:=hb 1
    have h2:=hb 2
    have h3:=hb 3
    have f1:(y0 :: y1 :: y2 :: y3 :: Z).getD 1 0=y1:=rfl
    have f2:(y0 :: y1 :: y2 :: y3 :: Z).getD 2 0=y2:=rfl
    have f3:(y0 :: y1 :: y2 :: y3 :: Z).getD 3 0=y3:=rfl
    rw [f1] at h1
    rw [f2] at h2
    rw [f3] at h3
    have e:beN (y0 :: y1 :: y2 :: y3 :: Z) 1 3=(y1*256+y2)*256+y3:=by
      show ((0*256+(y0 :: y1 :: y2 :: y3 :: Z).getD 1 0)*256+(y0 :: y1 :: y2 :: y3 :: Z).getD 2 0)*256+(y0 :: y1 :: y2 :: y3 :: Z).getD 3 0=_
      rw [f1,f2,f3]
      omega
    rw [e]
    have l:∀ v:Int,bigL v 3=[v / 65536 % 256,v / 256 % 256,v % 256]:=fun v=>by
      show [v / 256 ^ 2 % 256,v / 256 ^ 1 % 256,v / 256 ^ 0 % 256]=_
      simp
    rw [l]
    show [y0,_,_,_]=[y0,y1,y2,y3]
    have p1:((y1*256+y2)*256+y3) / 65536 % 256=y1:=by omega
    have p2:((y1*256+y2)*256+y3) / 256 % 256=y2:=by omega
    have p3:((y1*256+y2)*256+y3) % 256=y3:=by omega
    rw [p1,p2,p3]
theorem enc_of {xs:List Int} (hb:Byt xs) {i:Int} (h:dmC xs i=0):0≤i∧i≤dmE xs i∧dmE xs i≤(xs.length:Int)∧mfF (dmR xs i)=0∧encF (dmR xs i)=(xs.drop i.toNat).take (dmE xs i - i).toNat:=by
 have h':=h
 unfold dmC at h'
 by_cases h0:i < 0∨(xs.length:Int) < i
 ·rw [if_pos h0] at h'
  exact absurd h' (by decide)
 rw [if_neg h0] at h'
 by_cases h1:dmP (xs.drop i.toNat)=0
 ·rw [if_neg (fun c => c h1)] at h'
  by_cases h2:dmG (xs.drop i.toNat)=true
  ·have eR : dmR xs i = dmM (xs.drop i.toNat) := by unfold dmR; rw [if_pos h]
   have eE:dmE xs i=i+4+(dmN (xs.drop i.toNat):Int):=by unfold dmE;rw [if_pos h]
   rw [eR,eE]
   have ly:(xs.drop i.toNat).length=xs.length - i.toNat:=List.length_drop
   have by_:Byt (xs.drop i.toNat):=byt_drop hb _
   generalize xs.drop i.toNat=ys at *
   obtain ⟨f0,fb⟩:=of_decide_eq_true h2
   unfold dmP at h1
   have k0:¬ ys.length=0:=fun c=>by rw [if_pos c] at h1;exact absurd h1 (by decide)
   rw [if_neg k0] at h1
   have k1:¬ ys.getD 0 0 ∉ kinds:=fun c=>by rw [if_pos c] at h1;exact absurd h1 (by decide)
   rw [if_neg k1] at h1
   have k2:¬ ys.length < 4:=fun c=>by rw [if_pos c] at h1;exact absurd h1 (by decide)
   rw [if_neg k2] at h1
   have k3:¬ 8192 < beN ys 1 3:=fun c=>by rw [if_pos c] at h1;exact absurd h1 (by decide)
   rw [if_neg k3] at h1
   have k4:¬ (ys.length:Int) < 4+beN ys 1 3:=fun c=>by rw [if_pos c] at h1;exact absurd h1 (by decide)
   have b0:=(beN_rng by_ 1 3).1
   have nN:(dmN ys:Int)=beN ys 1 3:=by unfold dmN;omega
   have lx:(dmX ys).length=dmN ys:=by unfold dmX;rw [List.length_take,List.length_drop];omega
   have mk:(dmM ys).k=ys.getD 0 0:=rdM_k (Decidable.not_not.1 k1) _
   refine ⟨by omega,by omega,by omega,f0,?_⟩
   rw [enc_is f0,fb,mk,lx,nN,← List.append_assoc,big3 by_ (by omega)]
   rw [show (i+4+beN ys 1 3 - i).toNat=4+dmN ys by omega,List.take_add]
   rfl
  ·rw [if_neg h2] at h'
   exact absurd h' (by decide)
 ·rw [if_pos h1] at h'
  exact absurd h' h1
end Go.Proofs.YtmmbkkfjiaoeiaaGreat
namespace Go.Proofs.YtmmbkkfjiaoeiaaGreat
open Go Go.RowKit
set_option maxRecDepth 100000 in
set_option maxHeartbeats 8000000 in
theorem specEnc_walk (w:World) (p:MQ) (m:Msg) (h:HasM w p m) (i:IsM m) (z:HasZ p m)
  (MF:∀ W,HasM W p m→Calls Tryz.prog 6 #[.agg (mgV p m)] W fun e w'=>e = .returned (.int .i64 (mfF m))∧Below W.heap.size W w') :
  Calls Tryz.prog 32 #[.agg (mgV p m)] w (BodP w (encF m)):=by
 obtain ⟨i0,hi,hz0,hz1,hz2⟩:=info_parts Tryz.info5
 obtain ⟨OUT,hO'⟩:∃ l:List Int,l=encF m:=⟨_,rfl⟩
 rw [← hO']
 have hO:=hide hO'
 clear hO'
 have n0:Below w.heap.size w (w.alloc (.cells (mgV p m) 26)):=(Below.refl _ _).alloc (Nat.le_refl _) _
 have RW:RwC (w.alloc (.cells (mgV p m) 26)) w.heap.size (mgV p m).toList 26:=RwC.new w (mgV p m).toList 26
 have C1:=hide (MF _ (h.up n0))
 have SB:Hid (∀ W,Below w.heap.size w W→mfF m=0→SbP W p m):=fun W n f0=>sb_any W p m (h.up n) i z f0
 have N0:=hide n0
 have RG:=RW.rangeG
 have RH:=hide RW
 clear n0 MF h i z RW
 obtain ⟨dC,hdC,hrC⟩:=rowM
 go_enter Tryz.func32,Tryz.ntmps32
 go_upto_region 1 with fail
 generalize w.alloc (.cells (mgV p m) 26)=W1 at *
 go_wp2_with (first | (refine wpList_load_mid rfl 26 (.tmp 1) rfl w.heap.size 0 rfl (mgV p m).toList dC RG hdC hrC iM ?_) | fail)
 refine C1.out.mono ?_
 rintro e w1 ⟨rfl,n1⟩
 have N1:=nxt N0.out n1
 have RW1:=RH.out.up n1
 clear RG RH C1 N0 n1
 by_cases f0:mfF m=0
 rotate_left
 ·have eo : Hid (OUT = []) := by show _ = _; rw [hO.out]; unfold encF; rw [if_neg f0]
  clear SB hO RW1
  generalize mfF m=f at *
  have d0:(f == 0)=false:=beq_eq_false_iff_ne.2 f0
  have FIN:Hid (BodP w OUT (.returned (.slice (some ⟨w1.heap.size,0,none⟩) 0 0)) (w1.alloc (.cells #[] 5))):=⟨⟨_,rfl,by rw [eo.out];exact (RowB.lit0 w1).base N1.size⟩,nxt N1 ((Below.refl _ _).alloc (Nat.le_refl _) _)⟩
  clear eo N1
  go_wp2
  go_ret
  exact FIN.out
 obtain ⟨S1,S2,S3,S4⟩:=(unhide SB) w1 N1 f0
 have hO2:Hid (OUT=([m.k] ++ bigL ((bodF m).length:Int) 3) ++ bodF m):=by show _=_;rw [hO.out];unfold encF enL;rw [if_pos f0]
 have S5:=hide S1
 have RG1:=RW1.rangeG
 clear SB hO S1
 rw [f0]
 clear f0
 go_wp2_with (first | (refine wpList_load_mid rfl 26 (.tmp 1) rfl w.heap.size 0 rfl (mgV p m).toList dC RG1 hdC hrC iM ?_) | fail)
 refine S5.out.mono ?_
 rintro e w2 ⟨⟨v2,rfl,R2⟩,n2⟩
 have N2:=nxt N1 n2
 have RW2:=RW1.up n2
 obtain ⟨a2,c2,g2,rfl,r2,z2⟩:=row_slice R2
 clear RG1 RW1 S5 N1 n2 R2
 generalize bodF m=bl at *
 have kc:w2.cell? ⟨w.heap.size,0,none⟩=some (.int .i64 m.k):=RW2.cell 0
 have kq:=RW2.lt
 clear RW2
 generalize m.k=k at *
 have w8:IntKind.u8.wrap k=k:=by simp [IntKind.wrap,IntKind.signed,IntKind.bits];omega
 go_upto_region 4 with fail
 have nd:Below w2.heap.size w2 w2.drew:=(Below.refl _ _).drew
 have bA:∀ {W:World},Below w2.heap.size w2 W→∀ o,Below w2.heap.size w2 (W.alloc o):=fun n o=>n.alloc n.size o
 have LB:=S2
 have CL:Hid (∀ W,Below w2.heap.size w2 W→Calls Tryz.prog 54 #[.int .i64 (bl.length:Int),.int .i64 3] W fun e w'=>∃ v,e = .returned v∧RowB w' w2.heap.size v (bigL (bl.length:Int) 3)∧Below w2.heap.size w2 w'∧Below W.heap.size W w'):=fun W n=>(l1BigB_any W (bl.length:Int) 3 (by omega) (by omega) (by decide)).mono (by rintro e w' ⟨rfl,R,m⟩;exact ⟨_,rfl,R.base n.size,nxt n m,m⟩)
 have AP:Hid (∀ W v u,Below w2.heap.size w2 W→RowB W w2.heap.size v [k]→RowB W w2.heap.size u (bigL (bl.length:Int) 3)→∃ v' w',(Builtin.append_ #[22,22] 22 #[v,u]).run Tryz.prog W = .ok v' w'∧(RowB w' w2.heap.size v' ([k] ++ bigL (bl.length:Int) 3)∧Below w2.heap.size w2 w')):=fun W v u n R S=>by
  obtain ⟨a,c,g,e,r,zz⟩:=row_slice S
  obtain ⟨v',w',h1,h2,h3⟩:=append_any (P:=Tryz.prog) W 22 i0 Tryz.underlying22 hi hz0 hz1 hz2 w2.heap.size w2.heap.size v [k] R g a c _ r zz (by rw [bigL_len];simp) (Nat.le_refl _) n.size
  rw [e]
  exact ⟨v',w',h1,h2,n.trans h3⟩
 have AQ:Hid (∀ W v,Below w2.heap.size w2 W→RowB W w2.heap.size v ([k] ++ bigL (bl.length:Int) 3)→∃ v' w',(Builtin.append_ #[22,22] 22 #[v,.slice a2 bl.length c2]).run Tryz.prog W = .ok v' w'∧(RowB w' w2.heap.size v' (([k] ++ bigL (bl.length:Int) 3) ++ bl)∧Below w2.heap.size w2 w')):=fun W v n R=>by
  obtain ⟨v',w',h1,h2,h3⟩:=append_any (P:=Tryz.prog) W 22 i0 Tryz.underlying22 hi hz0 hz1 hz2 w2.heap.size w2.heap.size v _ R g2 a2 c2 bl (r2.up n) z2 (by rw [List.length_append,bigL_len];simp only [List.length_cons,List.length_nil];omega) (Nat.le_refl _) n.size
  exact ⟨v',w',h1,h2,n.trans h3⟩
 have CY:Hid (∀ W,Below w2.heap.size w2 W→W.cell? ⟨w.heap.size,0,none⟩=some (.int .i64 k)):=fun W n=>cellq n kc
 have C0:=hide ((unhide CL) w2.drew nd)
 have C1:=hide ((unhide CL) (w2.drew.alloc (.cells #[.int .u8 k] 5)) (bA nd _))
 have RE:RowB (w2.drew.alloc (.cells #[.int .u8 k] 5)) w2.heap.size (.slice (some ⟨w2.heap.size,0,none⟩) 1 1) [k]:=RowB.lit1 w2.drew k
 clear kc CL
 go_region_held3 (fun W=>W.cell? ⟨w.heap.size,0,none⟩=some (.int .i64 k))
  (first | exact (unhide CY) _ nd | exact (unhide CY) _ (bA nd _) | exact (unhide CY) _ n16 | exact (unhide CY) _ (bA n16 _) | exact (unhide CY) _ n17 | exact (unhide CY) _ n19)
  (first
   | (go_at_call 54;refine C0.out.mono ?_;rintro rr w16 ⟨v16,rfl,R16,n16,m16⟩;(have B17a:=hide ((unhide AP) (w16.alloc (.cells #[.int .u8 k] 5)) (.slice (some ⟨w16.heap.size,0,none⟩) 1 1) v16 (bA n16 _) ((RowB.lit1 w16 k).base n16.size) (R16.up ((Below.refl _ _).alloc (Nat.le_refl _) _)))))
   | (go_at_call 54;refine C1.out.mono ?_;rintro rr w16 ⟨v16,rfl,R16,n16,m16⟩;(have B17b:=hide ((unhide AP) w16 (.slice (some ⟨w2.heap.size,0,none⟩) 1 1) v16 n16 (RE.up m16) R16)))
   | (refine step_append_exM rfl (.tmp 13) (.tmp 16) 22 22 rfl (.slice (some ⟨w16.heap.size,0,none⟩) 1 1) v16 rfl rfl _ B17a.out ?_;rintro v17 w17 ⟨R17,n17⟩;(have B19:=hide ((unhide AQ) w17 v17 n17 R17)))
   | (refine step_append_exM rfl (.tmp 13) (.tmp 16) 22 22 rfl (.slice (some ⟨w2.heap.size,0,none⟩) 1 1) v16 rfl rfl _ B17b.out ?_;rintro v17 w17 ⟨R17,n17⟩;(have B19:=hide ((unhide AQ) w17 v17 n17 R17)))
   | (refine step_append_exM rfl (.tmp 17) (.tmp 18) 22 22 rfl v17 (.slice a2 bl.length c2) rfl rfl _ B19.out ?_;rintro v19 w19 ⟨R19,n19⟩)
   | fail)
 all_goals
  have FIN:Hid (BodP w OUT (.returned v19) w19):=⟨⟨v19,rfl,by rw [hO2.out];exact R19.base N2.size⟩,nxt N2 n19⟩
  clear C0 C1 AP AQ CY R16 m16 n16 R17 n17 R19 n19 nd bA RE B19
  go_wp2
  go_ret
  exact FIN.out
end Go.Proofs.YtmmbkkfjiaoeiaaGreat
namespace Go.Proofs.YtmmbkkfjiaoeiaaGreat
open Go Go.RowKit
def ex6 (vb rb he an tk:Bool):Bool:=(vb && !he && !an) || (rb && !he && !an && !tk)
def ex8 (sb hb pb he an ex:Bool):Bool:=(sb && !he && !an) || (hb && !he) || (pb && !he && !ex)
def ex10 (tb gb bb he tk:Bool):Bool:=(tb && !he && !tk) || (gb && !he && !tk) || (bb && !he)
def ex12 (eb he tk ex nu:Bool):Bool:=eb && !he && !tk && !ex && nu
def ex14 (rs an cb nc fb np nf:Bool):Bool:=(rs && !an) || (cb && nc) || (fb && np && nf)
def si2 (v0 v1:Bool):Bool:=v0 || v1
def si4 (he an tk r2:Bool):Bool:=(he || an || tk) && r2
def si6 (he an s2:Bool):Bool:=(he || an) && s2
def si8 (pf p6 ff p3:Bool):Bool:=(pf && p6) || (ff && p3)
def siR (he tb b3 b0 g0 e0:Bool):Bool:=if (he && tb)=true then b3 else if he=true then b0 && g0 && e0 else true
end Go.Proofs.YtmmbkkfjiaoeiaaGreat
