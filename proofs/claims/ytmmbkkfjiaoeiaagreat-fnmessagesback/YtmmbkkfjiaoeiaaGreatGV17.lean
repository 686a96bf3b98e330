import Derived.Test.YtmmbkkfjiaoeiaaGreatGV16
import Derived.Test.YtmmbkkfjiaoeiaaGreatGVxMhD
import Derived.Test.YtmmbkkfjiaoeiaaGreatGVxMhA
import Derived.Test.YtmmbkkfjiaoeiaaGreatGVxMhB
import Derived.Test.YtmmbkkfjiaoeiaaGreatGV1
import Derived.Test.YtmmbkkfjiaoeiaaGreatGV12
import Derived.Test.YtmmbkkfjiaoeiaaGreatGV4
import Derived.Test.YtmmbkkfjiaoeiaaGreatGV2
import Derived.Deep.MidRow
import Derived.Deep.Cut
import Derived.Test.YtmmbkkfjiaoeiaaGreatGV7
import Derived.Deep.QuietTactic
import Derived.BigQuiet
import Derived.Test.YtmmbkkfjiaoeiaaGreatGV14
import Derived.Test.YtmmbkkfjiaoeiaaGreatGV15
import Derived.Test.YtmmbkkfjiaoeiaaGreatGV9
namespace Go.Proofs.YtmmbkkfjiaoeiaaGreat
open Go Go.RowKit
def extV (k v:Int) (n2 n3:Nat) (ho:List UInt8) (n5 n6:Nat) (ag ea:Int) (n9:Nat) (rs:Bool) (n11 n12:Nat):Bool:=ex6 (v != 0) (decide ((0:Int) < (n2:Int))) (k == 1) (k == 2) (k == 4) || (ex8 (decide ((0:Int) < (n3:Int))) (!(ho == [])) (decide ((0:Int) < (n5:Int))) (k == 1) (k == 2) (k == 8) || (ex10 (decide ((0:Int) < (n6:Int))) (ag != 0) (decide ((0:Int) < (n9:Int))) (k == 1) (k == 4) || (ex12 (ea != 0) (k == 1) (k == 4) (k == 8) (k != 24) || ex14 rs (k == 2) (decide ((0:Int) < (n11:Int))) (k != 11) (decide ((0:Int) < (n12:Int))) (k != 15) (k != 20))))
def sizV (k v:Int) (n2 n3 n6:Nat) (ag ea:Int) (n9 n12:Nat):Bool := !si2 (decide (v < 0)) (decide (255 < v)) && (!si4 (k == 1) (k == 2) (k == 4) ((n2:Int) != 32) && (!si6 (k == 1) (k == 2) ((n3:Int) != 32) && (!si8 (k == 15) ((n12:Int) != 64) (k == 20) ((n12:Int) != 32) && siR (k == 1) (decide ((0:Int) < (n6:Int))) ((n9:Int) == 32) ((n9:Int) == 0) (ag == 0) (ea == 0))))
def spM (m:Msg):Int:=spV (decide (m.k ∈ kinds)) (extV m.k m.v m.r.length m.s.length m.ho m.pr.length m.ti.length m.ag m.ea m.bi.length m.rs m.ce.length m.pf.length) (sizV m.k m.v m.r.length m.s.length m.ti.length m.ag m.ea m.bi.length m.pf.length) (nameF m.ho) (prB m.pr 8) (prB m.pr 1) m.k m.ag m.ea m.ti.length m.ce.length (ctA m.ce)
theorem prB_nil (n:Nat):prB [] n=true:=by simp [prB]
theorem ctA_nil:ctA []=false:=rfl
set_option linter.unusedSimpArgs false in
set_option maxHeartbeats 2000000 in
theorem mf_hello (m : Msg) (hk : m.k = 1) : mfF m = spM m := by
  obtain ⟨k,v,r,s,ho,pr,ti,ag,ea,bi,rs,ce,pf⟩:=m
  simp only at hk
  subst hk
  cases rs
  rotate_left
  · simp [mfF,kfF,sameM,msg0,spM,spV,extV,ex6,ex8,ex10,ex12,ex14,kinds,helloM]
  cases ce with
  | cons _ _=>simp [mfF,kfF,sameM,msg0,spM,spV,extV,ex6,ex8,ex10,ex12,ex14,kinds,helloM]
  | nil =>
    cases pf with
    | cons _ _=>simp [mfF,kfF,sameM,msg0,spM,spV,extV,ex6,ex8,ex10,ex12,ex14,kinds,helloM]
    | nil =>
      by_cases h1:v < 0
      · simp [mfF,kfF,sameM,msg0,spM,spV,extV,ex6,ex8,ex10,ex12,ex14,kinds,helloM,si2,si4,si6,si8,siR,sizV,spT,prB_nil,ctA_nil,heF,fpB,bdB,ageB,flgB,h1]
      by_cases h2:255 < v
      · simp [mfF,kfF,sameM,msg0,spM,spV,extV,ex6,ex8,ex10,ex12,ex14,kinds,helloM,si2,si4,si6,si8,siR,sizV,spT,prB_nil,ctA_nil,heF,fpB,bdB,ageB,flgB,h1,h2]
      by_cases h3:r.length=32
      rotate_left
      · have h3' : ¬ (r.length : Int) = 32 := by omega
        simp [mfF,kfF,sameM,msg0,spM,spV,extV,ex6,ex8,ex10,ex12,ex14,kinds,helloM,si2,si4,si6,si8,siR,sizV,spT,prB_nil,ctA_nil,heF,fpB,bdB,ageB,flgB,h1,h2,h3,h3']
      have h3':(r.length:Int)=32:=by omega
      by_cases h4:s.length=32
      rotate_left
      · have h4' : ¬ (s.length : Int) = 32 := by omega
        simp [mfF,kfF,sameM,msg0,spM,spV,extV,ex6,ex8,ex10,ex12,ex14,kinds,helloM,si2,si4,si6,si8,siR,sizV,spT,prB_nil,ctA_nil,heF,fpB,bdB,ageB,flgB,h1,h2,h3,h3',h4,h4']
      have h4':(s.length:Int)=32:=by omega
      by_cases h5:ti.length=0
      · have h5' : ¬ 0 < ti.length := by omega
        have h5'':¬ 400 < ti.length:=by omega
        by_cases h6:bi.length=0
        rotate_left
        · have h6' : ¬ (bi.length : Int) = 0 := by omega
          simp [mfF,kfF,sameM,msg0,spM,spV,extV,ex6,ex8,ex10,ex12,ex14,kinds,helloM,si2,si4,si6,si8,siR,sizV,spT,prB_nil,ctA_nil,heF,fpB,bdB,ageB,flgB,h1,h2,h3,h3',h4,h4',h5,h5',h6,h6']
        have h6':(bi.length:Int)=0:=by omega
        by_cases h7:ag=0
        rotate_left
        · simp [mfF,kfF,sameM,msg0,spM,spV,extV,ex6,ex8,ex10,ex12,ex14,kinds,helloM,si2,si4,si6,si8,siR,sizV,spT,prB_nil,ctA_nil,heF,fpB,bdB,ageB,flgB,h1,h2,h3,h3',h4,h4',h5,h5',h6,h6',h7]
        by_cases h8:ea=0
        rotate_left
        · simp [mfF,kfF,sameM,msg0,spM,spV,extV,ex6,ex8,ex10,ex12,ex14,kinds,helloM,si2,si4,si6,si8,siR,sizV,spT,prB_nil,ctA_nil,heF,fpB,bdB,ageB,flgB,h1,h2,h3,h3',h4,h4',h5,h5',h6,h6',h7,h8]
        subst h7
        subst h8
        by_cases h9:nameF ho=0
        rotate_left
        · simp [mfF,kfF,sameM,msg0,spM,spV,extV,ex6,ex8,ex10,ex12,ex14,kinds,helloM,si2,si4,si6,si8,siR,sizV,spT,prB_nil,ctA_nil,heF,fpB,bdB,ageB,flgB,h1,h2,h3,h3',h4,h4',h5,h5',h6,h6',h9]
        cases hp:prB pr 8 with
        | false=>simp [mfF,kfF,sameM,msg0,spM,spV,extV,ex6,ex8,ex10,ex12,ex14,kinds,helloM,si2,si4,si6,si8,siR,sizV,spT,prB_nil,ctA_nil,heF,fpB,bdB,ageB,flgB,h1,h2,h3,h3',h4,h4',h5,h5',h6,h6',h9,hp]
        | true=>simp [mfF,kfF,sameM,msg0,spM,spV,extV,ex6,ex8,ex10,ex12,ex14,kinds,helloM,si2,si4,si6,si8,siR,sizV,spT,prB_nil,ctA_nil,heF,fpB,bdB,ageB,flgB,h1,h2,h3,h3',h4,h4',h5,h5',h5'',h6,h6',h9,hp]
      have h5':0 < ti.length:=by omega
      by_cases h6:bi.length=32
      rotate_left
      · have h6' : ¬ (bi.length : Int) = 32 := by omega
        simp [mfF,kfF,sameM,msg0,spM,spV,extV,ex6,ex8,ex10,ex12,ex14,kinds,helloM,si2,si4,si6,si8,siR,sizV,spT,prB_nil,ctA_nil,heF,fpB,bdB,ageB,flgB,h1,h2,h3,h3',h4,h4',h5,h5',h6,h6']
      have h6':(bi.length:Int)=32:=by omega
      by_cases h9:nameF ho=0
      rotate_left
      · simp [mfF,kfF,sameM,msg0,spM,spV,extV,ex6,ex8,ex10,ex12,ex14,kinds,helloM,si2,si4,si6,si8,siR,sizV,spT,prB_nil,ctA_nil,heF,fpB,bdB,ageB,flgB,h1,h2,h3,h3',h4,h4',h5,h5',h6,h6',h9]
      cases hp:prB pr 8 with
      | false=>simp [mfF,kfF,sameM,msg0,spM,spV,extV,ex6,ex8,ex10,ex12,ex14,kinds,helloM,si2,si4,si6,si8,siR,sizV,spT,prB_nil,ctA_nil,heF,fpB,bdB,ageB,flgB,h1,h2,h3,h3',h4,h4',h5,h5',h6,h6',h9,hp]
      | true =>
        by_cases ha:400 < ti.length
        · simp [mfF,kfF,sameM,msg0,spM,spV,extV,ex6,ex8,ex10,ex12,ex14,kinds,helloM,si2,si4,si6,si8,siR,sizV,spT,prB_nil,ctA_nil,heF,fpB,bdB,ageB,flgB,h1,h2,h3,h3',h4,h4',h5,h5',h6,h6',h9,hp,ha]
        by_cases hb:0≤ag
        rotate_left
        · have hb' : ag < 0 := by omega
          simp [mfF,kfF,sameM,msg0,spM,spV,extV,ex6,ex8,ex10,ex12,ex14,kinds,helloM,si2,si4,si6,si8,siR,sizV,spT,prB_nil,ctA_nil,heF,fpB,bdB,ageB,flgB,h1,h2,h3,h3',h4,h4',h5,h5',h6,h6',h9,hp,ha,hb,hb']
        have hb':¬ ag < 0:=by omega
        by_cases hc:ag≤4294967295
        rotate_left
        · have hc' : 4294967295 < ag := by omega
          simp [mfF,kfF,sameM,msg0,spM,spV,extV,ex6,ex8,ex10,ex12,ex14,kinds,helloM,si2,si4,si6,si8,siR,sizV,spT,prB_nil,ctA_nil,heF,fpB,bdB,ageB,flgB,h1,h2,h3,h3',h4,h4',h5,h5',h6,h6',h9,hp,ha,hb,hb',hc,hc']
        have hc':¬ 4294967295 < ag:=by omega
        by_cases he:ea=0
        · subst he
          simp [mfF,kfF,sameM,msg0,spM,spV,extV,ex6,ex8,ex10,ex12,ex14,kinds,helloM,si2,si4,si6,si8,siR,sizV,spT,prB_nil,ctA_nil,heF,fpB,bdB,ageB,flgB,h1,h2,h3,h3',h4,h4',h5,h5',h6,h6',h9,hp,ha,hb,hb',hc,hc']
        by_cases hf:ea=1
        · subst hf
          simp [mfF,kfF,sameM,msg0,spM,spV,extV,ex6,ex8,ex10,ex12,ex14,kinds,helloM,si2,si4,si6,si8,siR,sizV,spT,prB_nil,ctA_nil,heF,fpB,bdB,ageB,flgB,h1,h2,h3,h3',h4,h4',h5,h5',h6,h6',h9,hp,ha,hb,hb',hc,hc']
        have hg:ea < 0∨1 < ea:=by omega
        simp [mfF,kfF,sameM,msg0,spM,spV,extV,ex6,ex8,ex10,ex12,ex14,kinds,helloM,si2,si4,si6,si8,siR,sizV,spT,prB_nil,ctA_nil,heF,fpB,bdB,ageB,flgB,h1,h2,h3,h3',h4,h4',h5,h5',h6,h6',h9,hp,ha,hb,hb',hc,hc',he,hf,hg]
set_option linter.unusedSimpArgs false in
set_option maxHeartbeats 2000000 in
theorem mf_answer (m : Msg) (hk : m.k = 2) : mfF m = spM m := by
  obtain ⟨k,v,r,s,ho,pr,ti,ag,ea,bi,rs,ce,pf⟩:=m
  simp only at hk
  subst hk
  cases ho with
  | cons _ _=>simp [mfF,kfF,sameM,msg0,spM,spV,extV,ex6,ex8,ex10,ex12,ex14,kinds,answerM]
  | nil =>
    cases pr with
    | cons _ _=>simp [mfF,kfF,sameM,msg0,spM,spV,extV,ex6,ex8,ex10,ex12,ex14,kinds,answerM]
    | nil =>
      cases ti with
      | cons _ _=>simp [mfF,kfF,sameM,msg0,spM,spV,extV,ex6,ex8,ex10,ex12,ex14,kinds,answerM]
      | nil =>
        by_cases h_ag:ag=0
        rotate_left
        · have g_ag : ¬ 0 = ag := fun h => h_ag h.symm
          simp [mfF,kfF,sameM,msg0,spM,spV,extV,ex6,ex8,ex10,ex12,ex14,kinds,answerM,h_ag,g_ag]
        subst h_ag
        by_cases h_ea:ea=0
        rotate_left
        · have g_ea : ¬ 0 = ea := fun h => h_ea h.symm
          simp [mfF,kfF,sameM,msg0,spM,spV,extV,ex6,ex8,ex10,ex12,ex14,kinds,answerM,h_ea,g_ea]
        subst h_ea
        cases bi with
        | cons _ _=>simp [mfF,kfF,sameM,msg0,spM,spV,extV,ex6,ex8,ex10,ex12,ex14,kinds,answerM]
        | nil =>
          cases ce with
          | cons _ _=>simp [mfF,kfF,sameM,msg0,spM,spV,extV,ex6,ex8,ex10,ex12,ex14,kinds,answerM]
          | nil =>
            cases pf with
            | cons _ _=>simp [mfF,kfF,sameM,msg0,spM,spV,extV,ex6,ex8,ex10,ex12,ex14,kinds,answerM]
            | nil =>
              by_cases h1:v < 0
              · simp [mfF,kfF,sameM,msg0,spM,spV,extV,ex6,ex8,ex10,ex12,ex14,kinds,answerM,si2,si4,si6,si8,siR,sizV,spT,prB_nil,ctA_nil,fpF,fpB,h1]
              by_cases h2:255 < v
              · simp [mfF,kfF,sameM,msg0,spM,spV,extV,ex6,ex8,ex10,ex12,ex14,kinds,answerM,si2,si4,si6,si8,siR,sizV,spT,prB_nil,ctA_nil,fpF,fpB,h1,h2]
              by_cases h3:r.length=32
              rotate_left
              · have h3_0 : ¬ (r.length : Int) = 32 := by omega
                simp [mfF,kfF,sameM,msg0,spM,spV,extV,ex6,ex8,ex10,ex12,ex14,kinds,answerM,si2,si4,si6,si8,siR,sizV,spT,prB_nil,ctA_nil,fpF,fpB,h1,h2,h3,h3_0]
              have h3_0:(r.length:Int)=32:=by omega
              by_cases h4:s.length=32
              rotate_left
              · have h4_0 : ¬ (s.length : Int) = 32 := by omega
                simp [mfF,kfF,sameM,msg0,spM,spV,extV,ex6,ex8,ex10,ex12,ex14,kinds,answerM,si2,si4,si6,si8,siR,sizV,spT,prB_nil,ctA_nil,fpF,fpB,h1,h2,h3,h3_0,h4,h4_0]
              have h4_0:(s.length:Int)=32:=by omega
              simp [mfF,kfF,sameM,msg0,spM,spV,extV,ex6,ex8,ex10,ex12,ex14,kinds,answerM,si2,si4,si6,si8,siR,sizV,spT,prB_nil,ctA_nil,fpF,fpB,h1,h2,h3,h3_0,h4,h4_0]
set_option linter.unusedSimpArgs false in
set_option maxHeartbeats 2000000 in
theorem mf_ticket (m : Msg) (hk : m.k = 4) : mfF m = spM m := by
  obtain ⟨k,v,r,s,ho,pr,ti,ag,ea,bi,rs,ce,pf⟩:=m
  simp only at hk
  subst hk
  by_cases h_v:v=0
  rotate_left
  · have g_v : ¬ 0 = v := fun h => h_v h.symm
    simp [mfF,kfF,sameM,msg0,spM,spV,extV,ex6,ex8,ex10,ex12,ex14,kinds,ticketM,h_v,g_v]
  subst h_v
  cases s with
  | cons _ _=>simp [mfF,kfF,sameM,msg0,spM,spV,extV,ex6,ex8,ex10,ex12,ex14,kinds,ticketM]
  | nil =>
    cases ho with
    | cons _ _=>simp [mfF,kfF,sameM,msg0,spM,spV,extV,ex6,ex8,ex10,ex12,ex14,kinds,ticketM]
    | nil =>
      cases pr with
      | cons _ _=>simp [mfF,kfF,sameM,msg0,spM,spV,extV,ex6,ex8,ex10,ex12,ex14,kinds,ticketM]
      | nil =>
        cases bi with
        | cons _ _=>simp [mfF,kfF,sameM,msg0,spM,spV,extV,ex6,ex8,ex10,ex12,ex14,kinds,ticketM]
        | nil =>
          cases rs
          rotate_left
          · simp [mfF,kfF,sameM,msg0,spM,spV,extV,ex6,ex8,ex10,ex12,ex14,kinds,ticketM]
          cases ce with
          | cons _ _=>simp [mfF,kfF,sameM,msg0,spM,spV,extV,ex6,ex8,ex10,ex12,ex14,kinds,ticketM]
          | nil =>
            cases pf with
            | cons _ _=>simp [mfF,kfF,sameM,msg0,spM,spV,extV,ex6,ex8,ex10,ex12,ex14,kinds,ticketM]
            | nil =>
              by_cases h3:r.length=32
              rotate_left
              · have h3_0 : ¬ (r.length : Int) = 32 := by omega
                simp [mfF,kfF,sameM,msg0,spM,spV,extV,ex6,ex8,ex10,ex12,ex14,kinds,ticketM,si2,si4,si6,si8,siR,sizV,spT,prB_nil,ctA_nil,tiF,ageB,h3,h3_0]
              have h3_0:(r.length:Int)=32:=by omega
              by_cases h5:ti.length=0
              · simp [mfF,kfF,sameM,msg0,spM,spV,extV,ex6,ex8,ex10,ex12,ex14,kinds,ticketM,si2,si4,si6,si8,siR,sizV,spT,prB_nil,ctA_nil,tiF,ageB,h3,h3_0,h5]
              by_cases h6:400 < ti.length
              · simp [mfF,kfF,sameM,msg0,spM,spV,extV,ex6,ex8,ex10,ex12,ex14,kinds,ticketM,si2,si4,si6,si8,siR,sizV,spT,prB_nil,ctA_nil,tiF,ageB,h3,h3_0,h5,h6]
              by_cases h7:0≤ag
              rotate_left
              · simp [mfF,kfF,sameM,msg0,spM,spV,extV,ex6,ex8,ex10,ex12,ex14,kinds,ticketM,si2,si4,si6,si8,siR,sizV,spT,prB_nil,ctA_nil,tiF,ageB,h3,h3_0,h5,h6,h7]
              by_cases h8:ag≤4294967295
              rotate_left
              · simp [mfF,kfF,sameM,msg0,spM,spV,extV,ex6,ex8,ex10,ex12,ex14,kinds,ticketM,si2,si4,si6,si8,siR,sizV,spT,prB_nil,ctA_nil,tiF,ageB,h3,h3_0,h5,h6,h7,h8]
              by_cases h9:0≤ea
              rotate_left
              · simp [mfF,kfF,sameM,msg0,spM,spV,extV,ex6,ex8,ex10,ex12,ex14,kinds,ticketM,si2,si4,si6,si8,siR,sizV,spT,prB_nil,ctA_nil,tiF,ageB,h3,h3_0,h5,h6,h7,h8,h9]
              by_cases ha:ea≤4294967295
              rotate_left
              · simp [mfF,kfF,sameM,msg0,spM,spV,extV,ex6,ex8,ex10,ex12,ex14,kinds,ticketM,si2,si4,si6,si8,siR,sizV,spT,prB_nil,ctA_nil,tiF,ageB,h3,h3_0,h5,h6,h7,h8,h9,ha]
              simp [mfF,kfF,sameM,msg0,spM,spV,extV,ex6,ex8,ex10,ex12,ex14,kinds,ticketM,si2,si4,si6,si8,siR,sizV,spT,prB_nil,ctA_nil,tiF,ageB,h3,h3_0,h5,h6,h7,h8,h9,ha]
set_option linter.unusedSimpArgs false in
set_option maxHeartbeats 2000000 in
theorem mf_end (m : Msg) (hk : m.k = 5) : mfF m = spM m := by
  obtain ⟨k,v,r,s,ho,pr,ti,ag,ea,bi,rs,ce,pf⟩:=m
  simp only at hk
  subst hk
  by_cases h_v:v=0
  rotate_left
  · have g_v : ¬ 0 = v := fun h => h_v h.symm
    simp [mfF,kfF,sameM,msg0,spM,spV,extV,ex6,ex8,ex10,ex12,ex14,kinds,endM,h_v,g_v]
  subst h_v
  cases r with
  | cons _ _=>simp [mfF,kfF,sameM,msg0,spM,spV,extV,ex6,ex8,ex10,ex12,ex14,kinds,endM]
  | nil =>
    cases s with
    | cons _ _=>simp [mfF,kfF,sameM,msg0,spM,spV,extV,ex6,ex8,ex10,ex12,ex14,kinds,endM]
    | nil =>
      cases ho with
      | cons _ _=>simp [mfF,kfF,sameM,msg0,spM,spV,extV,ex6,ex8,ex10,ex12,ex14,kinds,endM]
      | nil =>
        cases pr with
        | cons _ _=>simp [mfF,kfF,sameM,msg0,spM,spV,extV,ex6,ex8,ex10,ex12,ex14,kinds,endM]
        | nil =>
          cases ti with
          | cons _ _=>simp [mfF,kfF,sameM,msg0,spM,spV,extV,ex6,ex8,ex10,ex12,ex14,kinds,endM]
          | nil =>
            by_cases h_ag:ag=0
            rotate_left
            · have g_ag : ¬ 0 = ag := fun h => h_ag h.symm
              simp [mfF,kfF,sameM,msg0,spM,spV,extV,ex6,ex8,ex10,ex12,ex14,kinds,endM,h_ag,g_ag]
            subst h_ag
            by_cases h_ea:ea=0
            rotate_left
            · have g_ea : ¬ 0 = ea := fun h => h_ea h.symm
              simp [mfF,kfF,sameM,msg0,spM,spV,extV,ex6,ex8,ex10,ex12,ex14,kinds,endM,h_ea,g_ea]
            subst h_ea
            cases bi with
            | cons _ _=>simp [mfF,kfF,sameM,msg0,spM,spV,extV,ex6,ex8,ex10,ex12,ex14,kinds,endM]
            | nil =>
              cases rs
              rotate_left
              · simp [mfF,kfF,sameM,msg0,spM,spV,extV,ex6,ex8,ex10,ex12,ex14,kinds,endM]
              cases ce with
              | cons _ _=>simp [mfF,kfF,sameM,msg0,spM,spV,extV,ex6,ex8,ex10,ex12,ex14,kinds,endM]
              | nil =>
                cases pf with
                | cons _ _=>simp [mfF,kfF,sameM,msg0,spM,spV,extV,ex6,ex8,ex10,ex12,ex14,kinds,endM]
                | nil =>
                  simp [mfF,kfF,sameM,msg0,spM,spV,extV,ex6,ex8,ex10,ex12,ex14,kinds,endM,si2,si4,si6,si8,siR,sizV,spT,prB_nil,ctA_nil]
set_option linter.unusedSimpArgs false in
set_option maxHeartbeats 2000000 in
theorem mf_extras (m : Msg) (hk : m.k = 8) : mfF m = spM m := by
  obtain ⟨k,v,r,s,ho,pr,ti,ag,ea,bi,rs,ce,pf⟩:=m
  simp only at hk
  subst hk
  by_cases h_v:v=0
  rotate_left
  · have g_v : ¬ 0 = v := fun h => h_v h.symm
    simp [mfF,kfF,sameM,msg0,spM,spV,extV,ex6,ex8,ex10,ex12,ex14,kinds,extrasM,h_v,g_v]
  subst h_v
  cases r with
  | cons _ _=>simp [mfF,kfF,sameM,msg0,spM,spV,extV,ex6,ex8,ex10,ex12,ex14,kinds,extrasM]
  | nil =>
    cases s with
    | cons _ _=>simp [mfF,kfF,sameM,msg0,spM,spV,extV,ex6,ex8,ex10,ex12,ex14,kinds,extrasM]
    | nil =>
      cases ho with
      | cons _ _=>simp [mfF,kfF,sameM,msg0,spM,spV,extV,ex6,ex8,ex10,ex12,ex14,kinds,extrasM]
      | nil =>
        cases ti with
        | cons _ _=>simp [mfF,kfF,sameM,msg0,spM,spV,extV,ex6,ex8,ex10,ex12,ex14,kinds,extrasM]
        | nil =>
          by_cases h_ag:ag=0
          rotate_left
          · have g_ag : ¬ 0 = ag := fun h => h_ag h.symm
            simp [mfF,kfF,sameM,msg0,spM,spV,extV,ex6,ex8,ex10,ex12,ex14,kinds,extrasM,h_ag,g_ag]
          subst h_ag
          cases bi with
          | cons _ _=>simp [mfF,kfF,sameM,msg0,spM,spV,extV,ex6,ex8,ex10,ex12,ex14,kinds,extrasM]
          | nil =>
            cases rs
            rotate_left
            · simp [mfF,kfF,sameM,msg0,spM,spV,extV,ex6,ex8,ex10,ex12,ex14,kinds,extrasM]
            cases ce with
            | cons _ _=>simp [mfF,kfF,sameM,msg0,spM,spV,extV,ex6,ex8,ex10,ex12,ex14,kinds,extrasM]
            | nil =>
              cases pf with
              | cons _ _=>simp [mfF,kfF,sameM,msg0,spM,spV,extV,ex6,ex8,ex10,ex12,ex14,kinds,extrasM]
              | nil =>
                cases hp:prB pr 1 with
                | false=>simp [mfF,kfF,sameM,msg0,spM,spV,extV,ex6,ex8,ex10,ex12,ex14,kinds,extrasM,si2,si4,si6,si8,siR,sizV,spT,prB_nil,ctA_nil,exF,flgB,hp]
                | true =>
                  by_cases h1:ea=0
                  · subst h1
                    simp [mfF,kfF,sameM,msg0,spM,spV,extV,ex6,ex8,ex10,ex12,ex14,kinds,extrasM,si2,si4,si6,si8,siR,sizV,spT,prB_nil,ctA_nil,exF,flgB,hp]
                  by_cases h2:ea=1
                  · subst h2
                    simp [mfF,kfF,sameM,msg0,spM,spV,extV,ex6,ex8,ex10,ex12,ex14,kinds,extrasM,si2,si4,si6,si8,siR,sizV,spT,prB_nil,ctA_nil,exF,flgB,hp]
                  have h3:ea < 0∨1 < ea:=by omega
                  simp [mfF,kfF,sameM,msg0,spM,spV,extV,ex6,ex8,ex10,ex12,ex14,kinds,extrasM,si2,si4,si6,si8,siR,sizV,spT,prB_nil,ctA_nil,exF,flgB,hp,h1,h2,h3]
set_option linter.unusedSimpArgs false in
set_option maxHeartbeats 2000000 in
theorem mf_certs (m : Msg) (hk : m.k = 11) : mfF m = spM m := by
  obtain ⟨k,v,r,s,ho,pr,ti,ag,ea,bi,rs,ce,pf⟩:=m
  simp only at hk
  subst hk
  by_cases h_v:v=0
  rotate_left
  · have g_v : ¬ 0 = v := fun h => h_v h.symm
    simp [mfF,kfF,sameM,msg0,spM,spV,extV,ex6,ex8,ex10,ex12,ex14,kinds,certsM,h_v,g_v]
  subst h_v
  cases r with
  | cons _ _=>simp [mfF,kfF,sameM,msg0,spM,spV,extV,ex6,ex8,ex10,ex12,ex14,kinds,certsM]
  | nil =>
    cases s with
    | cons _ _=>simp [mfF,kfF,sameM,msg0,spM,spV,extV,ex6,ex8,ex10,ex12,ex14,kinds,certsM]
    | nil =>
      cases ho with
      | cons _ _=>simp [mfF,kfF,sameM,msg0,spM,spV,extV,ex6,ex8,ex10,ex12,ex14,kinds,certsM]
      | nil =>
        cases pr with
        | cons _ _=>simp [mfF,kfF,sameM,msg0,spM,spV,extV,ex6,ex8,ex10,ex12,ex14,kinds,certsM]
        | nil =>
          cases ti with
          | cons _ _=>simp [mfF,kfF,sameM,msg0,spM,spV,extV,ex6,ex8,ex10,ex12,ex14,kinds,certsM]
          | nil =>
            by_cases h_ag:ag=0
            rotate_left
            · have g_ag : ¬ 0 = ag := fun h => h_ag h.symm
              simp [mfF,kfF,sameM,msg0,spM,spV,extV,ex6,ex8,ex10,ex12,ex14,kinds,certsM,h_ag,g_ag]
            subst h_ag
            by_cases h_ea:ea=0
            rotate_left
            · have g_ea : ¬ 0 = ea := fun h => h_ea h.symm
              simp [mfF,kfF,sameM,msg0,spM,spV,extV,ex6,ex8,ex10,ex12,ex14,kinds,certsM,h_ea,g_ea]
            subst h_ea
            cases bi with
            | cons _ _=>simp [mfF,kfF,sameM,msg0,spM,spV,extV,ex6,ex8,ex10,ex12,ex14,kinds,certsM]
            | nil =>
              cases rs
              rotate_left
              · simp [mfF,kfF,sameM,msg0,spM,spV,extV,ex6,ex8,ex10,ex12,ex14,kinds,certsM]
              cases pf with
              | cons _ _=>simp [mfF,kfF,sameM,msg0,spM,spV,extV,ex6,ex8,ex10,ex12,ex14,kinds,certsM]
              | nil =>
                by_cases h1:ce.length=0
                · simp [mfF,kfF,sameM,msg0,spM,spV,extV,ex6,ex8,ex10,ex12,ex14,kinds,certsM,si2,si4,si6,si8,siR,sizV,spT,prB_nil,ctA_nil,ceF,h1]
                by_cases h2:4 < ce.length
                · simp [mfF,kfF,sameM,msg0,spM,spV,extV,ex6,ex8,ex10,ex12,ex14,kinds,certsM,si2,si4,si6,si8,siR,sizV,spT,prB_nil,ctA_nil,ceF,h1,h2]
                cases hc:ctA ce with
                | false=>simp [mfF,kfF,sameM,msg0,spM,spV,extV,ex6,ex8,ex10,ex12,ex14,kinds,certsM,si2,si4,si6,si8,siR,sizV,spT,prB_nil,ctA_nil,ceF,h1,h2,hc]
                | true=>simp [mfF,kfF,sameM,msg0,spM,spV,extV,ex6,ex8,ex10,ex12,ex14,kinds,certsM,si2,si4,si6,si8,siR,sizV,spT,prB_nil,ctA_nil,ceF,h1,h2,hc]
set_option linter.unusedSimpArgs false in
set_option maxHeartbeats 2000000 in
theorem mf_proof (m : Msg) (hk : m.k = 15) : mfF m = spM m := by
  obtain ⟨k,v,r,s,ho,pr,ti,ag,ea,bi,rs,ce,pf⟩:=m
  simp only at hk
  subst hk
  by_cases h_v:v=0
  rotate_left
  · have g_v : ¬ 0 = v := fun h => h_v h.symm
    simp [mfF,kfF,sameM,msg0,spM,spV,extV,ex6,ex8,ex10,ex12,ex14,kinds,proofM,h_v,g_v]
  subst h_v
  cases r with
  | cons _ _=>simp [mfF,kfF,sameM,msg0,spM,spV,extV,ex6,ex8,ex10,ex12,ex14,kinds,proofM]
  | nil =>
    cases s with
    | cons _ _=>simp [mfF,kfF,sameM,msg0,spM,spV,extV,ex6,ex8,ex10,ex12,ex14,kinds,proofM]
    | nil =>
      cases ho with
      | cons _ _=>simp [mfF,kfF,sameM,msg0,spM,spV,extV,ex6,ex8,ex10,ex12,ex14,kinds,proofM]
      | nil =>
        cases pr with
        | cons _ _=>simp [mfF,kfF,sameM,msg0,spM,spV,extV,ex6,ex8,ex10,ex12,ex14,kinds,proofM]
        | nil =>
          cases ti with
          | cons _ _=>simp [mfF,kfF,sameM,msg0,spM,spV,extV,ex6,ex8,ex10,ex12,ex14,kinds,proofM]
          | nil =>
            by_cases h_ag:ag=0
            rotate_left
            · have g_ag : ¬ 0 = ag := fun h => h_ag h.symm
              simp [mfF,kfF,sameM,msg0,spM,spV,extV,ex6,ex8,ex10,ex12,ex14,kinds,proofM,h_ag,g_ag]
            subst h_ag
            by_cases h_ea:ea=0
            rotate_left
            · have g_ea : ¬ 0 = ea := fun h => h_ea h.symm
              simp [mfF,kfF,sameM,msg0,spM,spV,extV,ex6,ex8,ex10,ex12,ex14,kinds,proofM,h_ea,g_ea]
            subst h_ea
            cases bi with
            | cons _ _=>simp [mfF,kfF,sameM,msg0,spM,spV,extV,ex6,ex8,ex10,ex12,ex14,kinds,proofM]
            | nil =>
              cases rs
              rotate_left
              · simp [mfF,kfF,sameM,msg0,spM,spV,extV,ex6,ex8,ex10,ex12,ex14,kinds,proofM]
              cases ce with
              | cons _ _=>simp [mfF,kfF,sameM,msg0,spM,spV,extV,ex6,ex8,ex10,ex12,ex14,kinds,proofM]
              | nil =>
                by_cases h1:pf.length=64
                rotate_left
                · have h1_0 : ¬ (pf.length : Int) = 64 := by omega
                  simp [mfF,kfF,sameM,msg0,spM,spV,extV,ex6,ex8,ex10,ex12,ex14,kinds,proofM,si2,si4,si6,si8,siR,sizV,spT,prB_nil,ctA_nil,pfF,h1,h1_0]
                have h1_0:(pf.length:Int)=64:=by omega
                simp [mfF,kfF,sameM,msg0,spM,spV,extV,ex6,ex8,ex10,ex12,ex14,kinds,proofM,si2,si4,si6,si8,siR,sizV,spT,prB_nil,ctA_nil,pfF,h1,h1_0]
set_option linter.unusedSimpArgs false in
set_option maxHeartbeats 2000000 in
theorem mf_finished (m : Msg) (hk : m.k = 20) : mfF m = spM m := by
  obtain ⟨k,v,r,s,ho,pr,ti,ag,ea,bi,rs,ce,pf⟩:=m
  simp only at hk
  subst hk
  by_cases h_v:v=0
  rotate_left
  · have g_v : ¬ 0 = v := fun h => h_v h.symm
    simp [mfF,kfF,sameM,msg0,spM,spV,extV,ex6,ex8,ex10,ex12,ex14,kinds,finishedM,h_v,g_v]
  subst h_v
  cases r with
  | cons _ _=>simp [mfF,kfF,sameM,msg0,spM,spV,extV,ex6,ex8,ex10,ex12,ex14,kinds,finishedM]
  | nil =>
    cases s with
    | cons _ _=>simp [mfF,kfF,sameM,msg0,spM,spV,extV,ex6,ex8,ex10,ex12,ex14,kinds,finishedM]
    | nil =>
      cases ho with
      | cons _ _=>simp [mfF,kfF,sameM,msg0,spM,spV,extV,ex6,ex8,ex10,ex12,ex14,kinds,finishedM]
      | nil =>
        cases pr with
        | cons _ _=>simp [mfF,kfF,sameM,msg0,spM,spV,extV,ex6,ex8,ex10,ex12,ex14,kinds,finishedM]
        | nil =>
          cases ti with
          | cons _ _=>simp [mfF,kfF,sameM,msg0,spM,spV,extV,ex6,ex8,ex10,ex12,ex14,kinds,finishedM]
          | nil =>
            by_cases h_ag:ag=0
            rotate_left
            · have g_ag : ¬ 0 = ag := fun h => h_ag h.symm
              simp [mfF,kfF,sameM,msg0,spM,spV,extV,ex6,ex8,ex10,ex12,ex14,kinds,finishedM,h_ag,g_ag]
            subst h_ag
            by_cases h_ea:ea=0
            rotate_left
            · have g_ea : ¬ 0 = ea := fun h => h_ea h.symm
              simp [mfF,kfF,sameM,msg0,spM,spV,extV,ex6,ex8,ex10,ex12,ex14,kinds,finishedM,h_ea,g_ea]
            subst h_ea
            cases bi with
            | cons _ _=>simp [mfF,kfF,sameM,msg0,spM,spV,extV,ex6,ex8,ex10,ex12,ex14,kinds,finishedM]
            | nil =>
              cases rs
              rotate_left
              · simp [mfF,kfF,sameM,msg0,spM,spV,extV,ex6,ex8,ex10,ex12,ex14,kinds,finishedM]
              cases ce with
              | cons _ _=>simp [mfF,kfF,sameM,msg0,spM,spV,extV,ex6,ex8,ex10,ex12,ex14,kinds,finishedM]
              | nil =>
                by_cases h1:pf.length=32
                rotate_left
                · have h1_0 : ¬ (pf.length : Int) = 32 := by omega
                  simp [mfF,kfF,sameM,msg0,spM,spV,extV,ex6,ex8,ex10,ex12,ex14,kinds,finishedM,si2,si4,si6,si8,siR,sizV,spT,prB_nil,ctA_nil,pfF,h1,h1_0]
                have h1_0:(pf.length:Int)=32:=by omega
                simp [mfF,kfF,sameM,msg0,spM,spV,extV,ex6,ex8,ex10,ex12,ex14,kinds,finishedM,si2,si4,si6,si8,siR,sizV,spT,prB_nil,ctA_nil,pfF,h1,h1_0]
set_option linter.unusedSimpArgs false in
set_option maxHeartbeats 2000000 in
theorem mf_update (m : Msg) (hk : m.k = 24) : mfF m = spM m := by
  obtain ⟨k,v,r,s,ho,pr,ti,ag,ea,bi,rs,ce,pf⟩:=m
  simp only at hk
  subst hk
  by_cases h_v:v=0
  rotate_left
  · have g_v : ¬ 0 = v := fun h => h_v h.symm
    simp [mfF,kfF,sameM,msg0,spM,spV,extV,ex6,ex8,ex10,ex12,ex14,kinds,updateM,h_v,g_v]
  subst h_v
  cases r with
  | cons _ _=>simp [mfF,kfF,sameM,msg0,spM,spV,extV,ex6,ex8,ex10,ex12,ex14,kinds,updateM]
  | nil =>
    cases s with
    | cons _ _=>simp [mfF,kfF,sameM,msg0,spM,spV,extV,ex6,ex8,ex10,ex12,ex14,kinds,updateM]
    | nil =>
      cases ho with
      | cons _ _=>simp [mfF,kfF,sameM,msg0,spM,spV,extV,ex6,ex8,ex10,ex12,ex14,kinds,updateM]
      | nil =>
        cases pr with
        | cons _ _=>simp [mfF,kfF,sameM,msg0,spM,spV,extV,ex6,ex8,ex10,ex12,ex14,kinds,updateM]
        | nil =>
          cases ti with
          | cons _ _=>simp [mfF,kfF,sameM,msg0,spM,spV,extV,ex6,ex8,ex10,ex12,ex14,kinds,updateM]
          | nil =>
            by_cases h_ag:ag=0
            rotate_left
            · have g_ag : ¬ 0 = ag := fun h => h_ag h.symm
              simp [mfF,kfF,sameM,msg0,spM,spV,extV,ex6,ex8,ex10,ex12,ex14,kinds,updateM,h_ag,g_ag]
            subst h_ag
            cases bi with
            | cons _ _=>simp [mfF,kfF,sameM,msg0,spM,spV,extV,ex6,ex8,ex10,ex12,ex14,kinds,updateM]
            | nil =>
              cases rs
              rotate_left
              · simp [mfF,kfF,sameM,msg0,spM,spV,extV,ex6,ex8,ex10,ex12,ex14,kinds,updateM]
              cases ce with
              | cons _ _=>simp [mfF,kfF,sameM,msg0,spM,spV,extV,ex6,ex8,ex10,ex12,ex14,kinds,updateM]
              | nil =>
                cases pf with
                | cons _ _=>simp [mfF,kfF,sameM,msg0,spM,spV,extV,ex6,ex8,ex10,ex12,ex14,kinds,updateM]
                | nil =>
                  by_cases h1:ea=0
                  · subst h1
                    simp [mfF,kfF,sameM,msg0,spM,spV,extV,ex6,ex8,ex10,ex12,ex14,kinds,updateM,si2,si4,si6,si8,siR,sizV,spT,prB_nil,ctA_nil,upF,flgB]
                  by_cases h2:ea=1
                  · subst h2
                    simp [mfF,kfF,sameM,msg0,spM,spV,extV,ex6,ex8,ex10,ex12,ex14,kinds,updateM,si2,si4,si6,si8,siR,sizV,spT,prB_nil,ctA_nil,upF,flgB]
                  have h3:ea < 0∨1 < ea:=by omega
                  simp [mfF,kfF,sameM,msg0,spM,spV,extV,ex6,ex8,ex10,ex12,ex14,kinds,updateM,si2,si4,si6,si8,siR,sizV,spT,prB_nil,ctA_nil,upF,flgB,h1,h2,h3]
theorem mf_eq (m:Msg):mfF m=spM m:=by
 by_cases h1:m.k=1
 ·exact mf_hello m h1
 by_cases h2:m.k=2
 ·exact mf_answer m h2
 by_cases h4:m.k=4
 ·exact mf_ticket m h4
 by_cases h5:m.k=5
 ·exact mf_end m h5
 by_cases h8:m.k=8
 ·exact mf_extras m h8
 by_cases h11:m.k=11
 ·exact mf_certs m h11
 by_cases h15:m.k=15
 ·exact mf_proof m h15
 by_cases h20:m.k=20
 ·exact mf_finished m h20
 by_cases h24:m.k=24
 ·exact mf_update m h24
 simp [mfF,kfF,spM,spV,kinds,h1,h2,h4,h5,h8,h11,h15,h20,h24]
end Go.Proofs.YtmmbkkfjiaoeiaaGreat
namespace Go.Proofs.YtmmbkkfjiaoeiaaGreat
open Go Go.RowKit
theorem specMF_any (w:World) (p:MQ) (m:Msg) (h:HasM w p m) (i:IsM m) :
  Calls Tryz.prog 6 #[.agg (mgV p m)] w fun e w'=>e = .returned (.int .i64 (mfF m))∧Below w.heap.size w w':=by
 rw [mf_eq]
 obtain ⟨k,v,r,s,ho,pr,ti,ag,ea,bi,rs,ce,pf⟩:=m
 exact specMF_walk w k v ag ea p.a2 p.a3 p.a5 p.a6 p.a9 p.a11 p.a12 r.length s.length pr.length ti.length bi.length pf.length p.c2 p.c3 p.c5 p.c6 p.c9 p.c11 p.c12 ho rs ce p.g11 p.ps _ _ _ _ _ _
  (fun W=>l13Known_any W k)
  (fun W=>l13Extra_any W k v ag ea p.a2 p.a3 p.a5 p.a6 p.a9 p.a11 p.a12 r.length s.length pr.length ti.length bi.length ce.length pf.length p.c2 p.c3 p.c5 p.c6 p.c9 p.c11 p.c12 ho rs)
  (fun W=>l13Sizes_any W k v ag ea p.a2 p.a3 p.a5 p.a6 p.a9 p.a11 p.a12 r.length s.length pr.length ti.length bi.length ce.length pf.length p.c2 p.c3 p.c5 p.c6 p.c9 p.c11 p.c12 ho rs)
  (fun W=>specNameFault_any W ho (Nat.le_trans i.hoL (by decide)))
  (fun W n=>l13Protocols_any W p.g5 p.a5 p.c5 pr 8 (h.pr.up n) i.prL (by decide) i.prZ)
  (fun W n=>l13Protocols_any W p.g5 p.a5 p.c5 pr 1 (h.pr.up n) i.prL (by decide) i.prZ)
  h.ce i.ceZ i.tiL i.ceL
end Go.Proofs.YtmmbkkfjiaoeiaaGreat
namespace Go.Proofs.YtmmbkkfjiaoeiaaGreat
open Go Go.RowKit
theorem specEnc_any (w:World) (p:MQ) (m:Msg) (h:HasM w p m) (i:IsM m) (z:HasZ p m) :
  Calls Tryz.prog 32 #[.agg (mgV p m)] w (BodP w (encF m)) :=
 specEnc_walk w p m h i z fun W hW=>specMF_any W p m hW i
end Go.Proofs.YtmmbkkfjiaoeiaaGreat
namespace Go.Proofs.YtmmbkkfjiaoeiaaGreat
open Go Go.RowKit
def slA (a:Option Addr) (i c:Nat):Option Addr:=if c=i then a else a.map (·.add (i*1))
theorem size_u8 (w:World):(sizeOf (Tryz.prog.elem 22)).run Tryz.prog w = .ok 1 w:=by kernel_rfl
theorem und_s:Tryz.prog.underlying 22=some (.slice (Tryz.prog.elem 22)):=by kernel_rfl
theorem sl_both (W:World) (a:Option Addr) (n c i j m:Nat) (h1:i≤j) (h2:j≤c) (hm:m=j - i):(Instr.sliceAt 22 (.slice a n c) (some (.int .i64 (i:Int))) (some (.int .i64 (j:Int))) none).run Tryz.prog W = .ok (.slice (slA a i c) m (c - i)) W:=by
 rw [run_sliceAt_slice W 22 _ _ _ _ und_s,run_slice_lh W 22 a n c und_s .i64 .i64 i j (by omega) (by omega) (by omega),size_u8,hm]
 rfl
theorem sl_low (W:World) (a:Option Addr) (n c i m:Nat) (h1:i≤n) (_h2:n≤c) (hm:m=n - i):(Instr.sliceAt 22 (.slice a n c) (some (.int .i64 (i:Int))) none none).run Tryz.prog W = .ok (.slice (slA a i c) m (c - i)) W:=by
 rw [run_sliceAt_slice W 22 _ _ _ _ und_s]
 rw [run_slice_l W 22 a n c und_s .i64 i (by omega) (by omega),size_u8,hm]
 rfl
theorem sl_high (W:World) (a:Option Addr) (n c j:Nat) (h2:j≤c):(Instr.sliceAt 22 (.slice a n c) none (some (.int .i64 (j:Int))) none).run Tryz.prog W = .ok (.slice (slA a 0 c) j c) W:=by
 rw [run_sliceAt_slice W 22 _ _ _ _ und_s,run_slice_h W 22 a n c und_s .i64 j (by omega) (by omega),size_u8]
 rfl
theorem Rd.sl {w:World} {g:Nat} {a:Option Addr} {c:Nat} {xs:List Int} (h:Rd w g a .u8 xs) (hc:xs.length≤c) (i n:Nat):Rd w g (slA a i c) .u8 ((xs.drop i).take n):=fun h0=>by
 rw [List.length_take,List.length_drop] at h0
 have hi:i < xs.length:=by omega
 obtain ⟨o,e,hd⟩:=h.dropA i hi
 have ea:slA a i c=some ⟨g,o+i,none⟩:=by
  unfold slA
  rw [if_neg (by omega),e]
  show some (Addr.add ⟨g,o,none⟩ (i*1))=_
  rw [add_mid,Nat.mul_one]
 rw [ea]
 exact hd.takeA n (by rw [List.length_take,List.length_drop];exact h0)
theorem Rd.slD {w:World} {g:Nat} {a:Option Addr} {c:Nat} {xs:List Int} (h:Rd w g a .u8 xs) (hc:xs.length≤c) (i:Nat):Rd w g (slA a i c) .u8 (xs.drop i):=by
 have:=h.sl hc i (xs.drop i).length
 rwa [List.take_length] at this
theorem slA_none {a:Option Addr} {i c:Nat} (hz:a=none→c=0) (h:slA a i c=none):c - i=0:=by
 unfold slA at h
 split at h
 ·omega
 ·rw [Option.map_eq_none_iff] at h
  have:=hz h
  omega
theorem wpList_slT {P:Program} (w:World) {ops:Array Oper} {rest:List Oper} {o:Oper} {a:Act} {Q:Exit→Act→World→Prop} (hgd:o.guard=none) (t:TypeId) (x:Operand) (lo hi:Option Operand) (ho:o.op = .slice t x lo hi none) (vx:Value) (vl vh:Option Value) (hx:a.eval x=vx) (hl:lo.map a.eval=vl) (hh:hi.map a.eval=vh)
  (v':Value) (hr:(Instr.sliceAt t vx vl vh none).run P w = .ok v' w) (h:wpList P ops Q rest (a.put o.dst v') w):wpList P ops Q (o :: rest) a w :=
 wpList_plain hgd fun _ hK=>by
  unfold Oper.wp execOp
  simp only [ho,hx,hl,hh,Option.map_none]
  rw [Sem.run_bind,hr]
  exact hK _ _ h
end Go.Proofs.YtmmbkkfjiaoeiaaGreat
namespace Go.Proofs.YtmmbkkfjiaoeiaaGreat
open Go Go.RowKit
end Go.Proofs.YtmmbkkfjiaoeiaaGreat
namespace Go.Proofs.YtmmbkkfjiaoeiaaGreat
open Go Go.RowKit
theorem RwC.of_made {w : World} {base g n : Nat} {t : TypeId} (h : w.ownsRow base t 1 (.slice (some ⟨g, 0, none⟩) n n) n (madeCells (Value.agg #[.slice none 0 0]).cells (n * 1)).toList) : RwC w g (List.replicate n (.slice none 0 0)) t := by
 rcases h.2 with ⟨h',_⟩ | ⟨g',cap',cur,h',_,hg,_,_,hcs,htake⟩
 ·simp at h'
 ·simp only [Value.slice.injEq, Option.some.injEq, Addr.mk.injEq, and_true, true_and] at h'
  obtain ⟨rfl,rfl⟩:=h'
  show _=_
  rw [hg]
  have:cur=(List.replicate n (Value.slice none 0 0)).toArray:=by
   apply Array.ext'
   rw [List.take_of_length_le (by rw [Array.length_toList,hcs];exact Nat.le_refl _)] at htake
   rw [htake]
   apply List.ext_getElem
   ·simp [madeCells]
   ·intro i h1 h2
    simp [madeCells,Value.cells,Nat.mod_one]
  rw [this]
theorem pick_list {P : Nat → Nat → Prop} : ∀ n, (∀ j, j < n → ∃ G, P j G) → ∃ Gs : List Nat, ∀ j, j < n → P j (Gs.getD j 0)
  | 0,_=>⟨[],fun j hj=>absurd hj (by omega)⟩
  | n + 1, h => by
    obtain ⟨Gs,hG⟩:=pick_list (P:=P) n (fun j hj=>h j (by omega))
    obtain ⟨G,hn⟩:=h n (by omega)
    refine ⟨(List.range n).map (fun j=>Gs.getD j 0) ++ [G],fun j hj=>?_⟩
    by_cases e:j < n
    · have : ((List.range n).map (fun j => Gs.getD j 0) ++ [G]).getD j 0 = Gs.getD j 0 := by
        rw [List.getD_eq_getElem?_getD,List.getElem?_append_left (by simpa using e)]
        simp [e]
      rw [this]
      exact hG j e
    · obtain rfl : j = n := by omega
      have:((List.range j).map (fun i=>Gs.getD i 0) ++ [G]).getD j 0=G:=by
        rw [List.getD_eq_getElem?_getD,List.getElem?_append_right (by simp)]
        simp
      rw [this]
      exact hn
def RowK (B:Nat) (wr:World) (g:Nat) (ce:List (List Int)) (k:Nat) (vs:List Value):Prop:=vs.length=ce.length∧RwC wr g vs 52∧∀ j,j < k→∃ G,vs[j]?=some (.slice (some ⟨G,0,none⟩) (ce.getD j []).length (ce.getD j []).length)∧Blk wr G .u8 (ce.getD j [])∧B < G
theorem RowK.step {B g k:Nat} {wr w1:World} {ce:List (List Int)} {vs:List Value} (h:RowK B wr g ce k vs) (hk:k < ce.length) (hg:g≤B) (n:Below wr.heap.size wr w1) {G:Nat} (hG:B < G) (b:Blk w1 G .u8 (ce.getD k [])) :
  RowK B (w1.setCell ⟨g,k,none⟩ (.slice (some ⟨G,0,none⟩) (ce.getD k []).length (ce.getD k []).length)) g ce (k+1) (vs.set k (.slice (some ⟨G,0,none⟩) (ce.getD k []).length (ce.getD k []).length)):=by
 obtain ⟨h1,h2,h3⟩:=h
 have O:=Only.setCell w1 g k (.slice (some ⟨G,0,none⟩) (ce.getD k []).length (ce.getD k []).length)
 refine ⟨by simpa using h1,(h2.up n).set k _,fun j hj=>?_⟩
 by_cases e:j=k
 ·subst e
  exact ⟨G,by simp [h1,hk],b.of_block (O.block G (by omega)),hG⟩
 ·obtain ⟨G', e1, b1, l1⟩ := h3 j (by omega)
  exact ⟨G',by rw [List.getElem?_set_ne (by omega)];exact e1,(b1.up n).of_block (O.block G' (by omega)),l1⟩
theorem RowK.rd {B g:Nat} {wr:World} {ce:List (List Int)} {vs:List Value} (h:RowK B wr g ce ce.length vs):∃ ps,RdL wr g (some ⟨g,0,none⟩) ce ps∧∀ i,i < ce.length→B < (ps.getD i plb0).q:=by
 obtain ⟨h1,h2,h3⟩:=h
 obtain ⟨Gs,hG⟩:=pick_list ce.length h3
 have e:∀ i,i < ce.length→((List.range ce.length).map fun j=>(⟨some ⟨Gs.getD j 0,0,none⟩,(ce.getD j []).length,Gs.getD j 0⟩:Plb)).getD i plb0=⟨some ⟨Gs.getD i 0,0,none⟩,(ce.getD i []).length,Gs.getD i 0⟩:=fun i hi=>by
  rw [List.getD_eq_getElem?_getD]
  simp [hi]
 refine ⟨(List.range ce.length).map fun j=>⟨some ⟨Gs.getD j 0,0,none⟩,(ce.getD j []).length,Gs.getD j 0⟩,⟨fun _=>⟨0,rfl,fun i hi=>?_⟩,fun i hi=>?_⟩,fun i hi=>?_⟩
 ·rw [Nat.zero_add, h2.cell i, e i hi]
  exact (hG i hi).1
 ·rw [e i hi]
  exact (hG i hi).2.1.own0.rd
 ·rw [e i hi]
  exact (hG i hi).2.2
end Go.Proofs.YtmmbkkfjiaoeiaaGreat
namespace Go.Proofs.YtmmbkkfjiaoeiaaGreat
open Go Go.RowKit
end Go.Proofs.YtmmbkkfjiaoeiaaGreat
namespace Go.Proofs.YtmmbkkfjiaoeiaaGreat
open Go Go.RowKit
theorem Rd.onl {w w':World} {g q:Nat} {a:Option Addr} {xs:List Int} (h:Rd w g a .u8 xs) (O:Only q w w') (hne:g≠q):Rd w' g a .u8 xs:=fun h0=>by
 obtain ⟨off,e,hc⟩:=h h0
 exact ⟨off,e,fun i hi=>(World.cell?_of_block (a:=⟨g,off+i,none⟩) (O.block g hne)).trans (hc i hi)⟩
def FB (b:Nat) (W:World) (g:Nat) (xs:List Int):Prop:=Blk W g .u8 xs∧b < g
def FT (b:Nat) (W:World) (g:Nat) (ls:List (List UInt8)):Prop:=BlkT W g ls∧b < g
def FL (b:Nat) (W:World) (g:Nat) (ce:List (List Int)) (ps:List Plb):Prop:=RdL W g (some ⟨g,0,none⟩) ce ps∧b < g∧∀ i,i < ce.length→b < (ps.getD i plb0).q
theorem FB.up {b:Nat} {W W':World} {g:Nat} {xs:List Int} (h:FB b W g xs) (n:Below W.heap.size W W'):FB b W' g xs:=⟨h.1.up n,h.2⟩
theorem FT.up {b:Nat} {W W':World} {g:Nat} {xs:List (List UInt8)} (h:FT b W g xs) (n:Below W.heap.size W W'):FT b W' g xs:=⟨h.1.up n,h.2⟩
theorem FL.up {b:Nat} {W W':World} {g:Nat} {xs:List (List Int)} {ps:List Plb} (h:FL b W g xs ps) (n:Below W.heap.size W W'):FL b W' g xs ps:=⟨h.1.up n,h.2⟩
theorem FB.onl {b q:Nat} {W W':World} {g:Nat} {xs:List Int} (h:FB b W g xs) (O:Only q W W') (hq:q≤b):FB b W' g xs:=⟨h.1.of_block (O.block g (by have:=h.2;omega)),h.2⟩
theorem FT.onl {b q:Nat} {W W':World} {g:Nat} {xs:List (List UInt8)} (h:FT b W g xs) (O:Only q W W') (hq:q≤b):FT b W' g xs:=⟨(O.block g (by have:=h.2;omega)).trans h.1,h.2⟩
theorem FL.onl {b q:Nat} {W W':World} {g:Nat} {xs:List (List Int)} {ps:List Plb} (h:FL b W g xs ps) (O:Only q W W') (hq:q≤b):FL b W' g xs ps:=by
 obtain ⟨h1,h2,h3⟩:=h
 refine ⟨⟨fun h0=>?_,fun i hi=>(h1.b i hi).onl O (by have:=h3 i hi;omega)⟩,h2,h3⟩
 obtain ⟨off,e,hc⟩:=h1.r h0
 exact ⟨off,e,fun i hi=>(World.cell?_of_block (a:=⟨g,off+i,none⟩) (O.block g (by omega))).trans (hc i hi)⟩
end Go.Proofs.YtmmbkkfjiaoeiaaGreat
namespace Go.Proofs.YtmmbkkfjiaoeiaaGreat
open Go Go.RowKit
def zM:List Value:=[.int .i64 0,.int .i64 0,.slice none 0 0,.slice none 0 0,.string ⟨#[]⟩,.slice none 0 0,.slice none 0 0,.int .i64 0,.int .i64 0,.slice none 0 0,.bool false,.slice none 0 0,.slice none 0 0]
structure PS (w W:World) (av:Value) (at_:Nat) (cs:List Value):Prop where
 U:RwC W w.heap.size zM 26
 Q:RwC W (w.heap.size+1) [av,.int .i64 (at_:Int)] 105
 T:RwC W (w.heap.size+1+1) cs 26
 N:Below w.heap.size w W
theorem PS.call {w W W':World} {av:Value} {at_ n:Nat} {cs:List Value} (h:PS w W av at_ cs) (Q:RwC W' (w.heap.size+1) [av,.int .i64 (n:Int)] 105) (T:Tch [w.heap.size+1] W W'):PS w W' av n cs :=
 ⟨(T.block _ h.U.lt (by simp)).trans h.U,Q,(T.block _ h.T.lt (by simp)).trans h.T,⟨T.os.trans h.N.os,T.tape.trans h.N.tape,T.output.trans h.N.output,Nat.le_trans h.N.size T.size,fun k hk=>(T.block k (Nat.lt_of_lt_of_le hk h.N.size) (by simp;omega)).trans (h.N.block k hk)⟩⟩
theorem PS.set {w W:World} {av:Value} {at_:Nat} {cs:List Value} (h:PS w W av at_ cs) (i:Nat) (v:Value):PS w (W.setCell ⟨w.heap.size+1+1,i,none⟩ v) av at_ (cs.set i v) :=
 have O:=Only.setCell W (w.heap.size+1+1) i v
 ⟨(O.block _ (by omega)).trans h.U,(O.block _ (by omega)).trans h.Q,h.T.set i v,h.N.trans (O.below (by omega))⟩
theorem PS.start (w:World) (av:Value) (k:Int):PS w ((((w.alloc (.cells zM.toArray 26)).alloc (.cells #[av,.int .i64 0] 105)).alloc (.cells zM.toArray 26)).setCells (w.heap.size+1+1) 0 ((.int .i64 k) :: zM.drop 1)) av 0 ((.int .i64 k) :: zM.drop 1):=by
 have z1:(w.alloc (.cells zM.toArray 26)).heap.size=w.heap.size+1:=by simp
 have n1:Below w.heap.size w (w.alloc (.cells zM.toArray 26)):=(Below.refl _ _).alloc (Nat.le_refl _) _
 have s1:=RwC.new w zM 26
 generalize w.alloc (.cells zM.toArray 26)=a at *
 have z2:(a.alloc (.cells #[av,.int .i64 0] 105)).heap.size=a.heap.size+1:=by simp
 have n2:Below a.heap.size a (a.alloc (.cells #[av,.int .i64 0] 105)):=(Below.refl _ _).alloc (Nat.le_refl _) _
 have s2:=RwC.new a [av,.int .i64 0] 105
 have s2:RwC (a.alloc (.cells #[av,.int .i64 0] 105)) a.heap.size [av,.int .i64 0] 105:=s2
 generalize a.alloc (.cells #[av,.int .i64 0] 105)=b at *
 have n3:Below b.heap.size b (b.alloc (.cells zM.toArray 26)):=(Below.refl _ _).alloc (Nat.le_refl _) _
 have s3:=RwC.new b zM 26
 generalize b.alloc (.cells zM.toArray 26)=c at *
 have e2:a.heap.size=w.heap.size+1:=z1
 have e3:b.heap.size=w.heap.size+1+1:=by rw [z2,z1]
 rw [e2] at s2
 rw [e3] at s3
 have O:=only_setG c (w.heap.size+1+1) ((.int .i64 k) :: zM.drop 1) 0
 have N:Below w.heap.size w c:=(n1.trans (n2.mono (by omega))).trans (n3.mono (by omega))
 refine ⟨(O.block _ (by omega)).trans ((s1.up n2).up n3),(O.block _ (by omega)).trans (s2.up n3),?_,N.trans (O.below (by omega))⟩
 exact s3.put rfl
theorem PS.room (w:World) (av:Value):(((w.alloc (.cells zM.toArray 26)).alloc (.cells #[av,.int .i64 0] 105)).alloc (.cells zM.toArray 26)).there (w.heap.size+1+1) 0 13:=by
 have s3:=RwC.new ((w.alloc (.cells zM.toArray 26)).alloc (.cells #[av,.int .i64 0] 105)) zM 26
 have e:((w.alloc (.cells zM.toArray 26)).alloc (.cells #[av,.int .i64 0] 105)).heap.size=w.heap.size+1+1:=by simp
 rw [e] at s3
 exact s3.thereG
theorem FB.tch {b q:Nat} {W W':World} {g:Nat} {xs:List Int} (h:FB b W g xs) (T:Tch [q] W W') (hq:q≤b):FB b W' g xs:=⟨h.1.of_block (T.block g h.1.lt (by have:=h.2;simp;omega)),h.2⟩
def FR (b:Nat) (W:World) (v:Value) (ls:List (List UInt8)):Prop:=RowT W (b+1) v ls
theorem FR.tch {b q:Nat} {W W':World} {v:Value} {ls:List (List UInt8)} (h:FR b W v ls) (T:Tch [q] W W') (hq:q≤b):FR b W' v ls:=RowT.tch h T (by omega)
theorem FR.onl {b q:Nat} {W W':World} {v:Value} {ls:List (List UInt8)} (h:FR b W v ls) (O:Only q W W') (hq:q≤b):FR b W' v ls:=RowT.onl h O (by omega)
theorem RowT.rdT {w:World} {base:Nat} {a:Option Addr} {n c:Nat} {ls:List (List UInt8)} (h:RowT w base (.slice a n c) ls):n=ls.length∧ls.length≤c∧(a=none→c=0)∧∃ g,RdT w g a ls∧(0 < ls.length→(∃ cs mk,w.heap[g]?=some (.cells cs 9 mk))∧base≤g):=by
 rcases h.2 with ⟨h',h0⟩ | ⟨g,cap,cur,e,hbg,hg,hnc,hcm,hcs,ht⟩
 ·cases h'
  refine ⟨h0.symm,by omega,fun _=>rfl,0,fun hh=>absurd hh (by omega),fun hh=>absurd hh (by omega)⟩
 ·obtain ⟨rfl, rfl, rfl⟩ : a = some ⟨g, 0, none⟩ ∧ n = ls.length ∧ c = cap := by cases e; exact ⟨rfl, rfl, rfl⟩
  refine ⟨rfl,hnc,(fun e=>by cases e),g,fun hh=>?_,fun _=>⟨⟨_,_,hg⟩,hbg⟩⟩
  obtain ⟨g',c',e',_,_,hc,_⟩:=RowT.cells h hh
  obtain rfl:g=g':=by cases e';rfl
  exact ⟨0,rfl,fun i hi=>by rw [Nat.zero_add];exact hc i hi⟩
structure NoM (g:Nat) (p:MQ) (m:Msg):Prop where
 r:0 < m.r.length→p.g2≠g
 s:0 < m.s.length→p.g3≠g
 pr:0 < m.pr.length→p.g5≠g
 ti:0 < m.ti.length→p.g6≠g
 bi:0 < m.bi.length→p.g9≠g
 ce:0 < m.ce.length→p.g11≠g
 cl:∀ i,i < m.ce.length→0 < (m.ce.getD i []).length→(p.ps.getD i plb0).q≠g
 pf:0 < m.pf.length→p.g12≠g
def TyM (W:World) (p:MQ) (m:Msg):Prop:=(0 < m.pr.length→∃ cs mk,W.heap[p.g5]?=some (.cells cs 9 mk))∧(0 < m.ce.length→∃ cs mk,W.heap[p.g11]?=some (.cells cs 52 mk))
theorem TyM.up {W W':World} {p:MQ} {m:Msg} (h:TyM W p m) (n:Below W.heap.size W W'):TyM W' p m:=by
 refine ⟨fun h0=>?_,fun h0=>?_⟩
 ·obtain ⟨cs, mk, e⟩ := h.1 h0
  exact ⟨cs,mk,(n.block _ (Array.getElem?_eq_some_iff.1 e).1).trans e⟩
 ·obtain ⟨cs, mk, e⟩ := h.2 h0
  exact ⟨cs,mk,(n.block _ (Array.getElem?_eq_some_iff.1 e).1).trans e⟩
theorem zM_u8:∀ v ∈ zM,∀ x,v ≠ .int .u8 x:=by
 intro v hv x
 simp only [zM,List.mem_cons,List.not_mem_nil,or_false] at hv
 rcases hv with rfl | rfl | rfl | rfl | rfl | rfl | rfl | rfl | rfl | rfl | rfl | rfl | rfl <;> simp
theorem rd_offT {W W':World} {g q:Nat} {a:Option Addr} {xs:List Int} {t:TypeId} {zs:List Value} (hz:∀ v ∈ zs,∀ x,v ≠ .int .u8 x) (h:Rd W g a .u8 xs) (hq:RwC W q zs t) (O:Only q W W'):Rd W' g a .u8 xs:=h.of_block' fun h0=>O.block g (fun e=>by
 subst e
 obtain ⟨off,ha,hc⟩:=h h0
 have h1:=hc 0 h0
 rw [hq.cell (off+0)] at h1
 exact hz _ (List.mem_of_getElem? h1) _ rfl)
theorem HasM.offT {W W':World} {q:Nat} {p:MQ} {m:Msg} {zs:List Value} {t:TypeId} (h:HasM W p m) (ty:TyM W p m) (hz:∀ v ∈ zs,∀ x,v ≠ .int .u8 x) (ht:t≠9∧t≠52) (hq:RwC W q zs t) (O:Only q W W'):HasM W' p m∧TyM W' p m:=by
 have n5:0 < m.pr.length→p.g5≠q:=fun h0 e=>by
  obtain ⟨cs,mk,e1⟩:=ty.1 h0
  rw [e] at e1
  have e2:W.heap[q]?=some (.cells zs.toArray t (0,0)):=hq
  rw [e2] at e1
  exact ht.1 (by injection e1 with e1;injection e1)
 have n11:0 < m.ce.length→p.g11≠q:=fun h0 e=>by
  obtain ⟨cs,mk,e1⟩:=ty.2 h0
  rw [e] at e1
  have e2:W.heap[q]?=some (.cells zs.toArray t (0,0)):=hq
  rw [e2] at e1
  exact ht.2 (by injection e1 with e1;injection e1)
 refine ⟨⟨rd_offT hz h.r hq O,rd_offT hz h.s hq O,fun h0=>?_,rd_offT hz h.ti hq O,rd_offT hz h.bi hq O,⟨fun h0=>?_,fun i hi=>rd_offT hz (h.ce.b i hi) hq O⟩,rd_offT hz h.pf hq O,h.prC⟩,fun h0=>?_,fun h0=>?_⟩
 ·obtain ⟨off, ha, hc⟩ := h.pr h0
  exact ⟨off,ha,fun i hi=>(World.cell?_of_block (a:=⟨p.g5,off+i,none⟩) (O.block _ (n5 h0))).trans (hc i hi)⟩
 ·obtain ⟨off, ha, hc⟩ := h.ce.r h0
  exact ⟨off,ha,fun i hi=>(World.cell?_of_block (a:=⟨p.g11,off+i,none⟩) (O.block _ (n11 h0))).trans (hc i hi)⟩
 ·obtain ⟨cs, mk, e⟩ := ty.1 h0
  exact ⟨cs,mk,(O.block _ (n5 h0)).trans e⟩
 ·obtain ⟨cs, mk, e⟩ := ty.2 h0
  exact ⟨cs,mk,(O.block _ (n11 h0)).trans e⟩
theorem HasM.offM {W W':World} {q:Nat} {p:MQ} {m:Msg} (h:HasM W p m) (ty:TyM W p m) (hq:RwC W q zM 26) (O:Only q W W'):HasM W' p m∧TyM W' p m:=h.offT ty zM_u8 (by decide) hq O
def plbs (bs:List Plc):List Plb:=bs.map fun p=>⟨p.a,p.c,p.q⟩
theorem plbs_get {bs:List Plc} {i:Nat} (h:i < bs.length):(plbs bs).getD i plb0=⟨(bs.getD i plc0).a,(bs.getD i plc0).c,(bs.getD i plc0).q⟩:=by simp [plbs,h]
theorem BRow.rdL {w : World} {B : Nat} {a : Option Addr} {n c : Nat} {its : List (List Int)} {bs : List Plc} (h : BRow w B (.slice a n c) its bs) : n = its.length ∧ (a = none → c = 0) ∧ ∃ g, RdL w g a its (plbs bs) ∧ (0 < its.length → (∃ cs mk, w.heap[g]? = some (.cells cs 52 mk)) ∧ B ≤ g) := by
 obtain ⟨a',c',e,hz⟩:=h.slice
 obtain ⟨rfl,rfl,rfl⟩:a=a'∧n=its.length∧c=c':=by cases e;exact ⟨rfl,rfl,rfl⟩
 by_cases h0:0 < its.length
 ·obtain ⟨g, c', e', _, _, _, hc⟩ := h.cells h0
  obtain ⟨rfl,rfl⟩:a=some ⟨g,0,none⟩∧c=c':=by cases e';exact ⟨rfl,rfl⟩
  have hty:(∃ cs mk,w.heap[g]?=some (.cells cs 52 mk))∧B≤g:=by
   rcases h.o.2 with ⟨_,h''⟩ | ⟨g',cap,cur,e'',hb,hg,_⟩
   ·omega
   ·obtain rfl : g = g' := by cases e''; rfl
    exact ⟨⟨_,_,hg⟩,hb⟩
  refine ⟨rfl,hz,g,⟨fun _=>⟨0,rfl,fun i hi=>?_⟩,fun i hi=>?_⟩,fun _=>hty⟩
  ·rw [Nat.zero_add, plbs_get (by rw [h.l]; exact hi)]
   exact hc i hi
  ·rw [plbs_get (by rw [h.l]; exact hi)]
   exact (h.b i hi).o.rd
 ·exact ⟨rfl,hz,0,⟨fun hh=>absurd hh h0,fun i hi=>absurd hi (by omega)⟩,fun hh=>absurd hh h0⟩
theorem ppL_bd {xs:List Int} (hb:Byt xs) (i:Nat):∀ k,ppL xs i k≤i+k*65537
  | 0=>by simp [ppL]
  | k + 1 => by
    have:=ppL_bd hb i k
    have h1:=beN_rng hb (ppL xs i k) 2
    have e:ppL xs i (k+1)=ppL xs i k+2+(beN xs (ppL xs i k) 2).toNat:=rfl
    omega
theorem certsZ {W:World} {B:Nat} {va:Option Addr} {vc n gq:Nat} {xs:List Int} {bs:List Plc} (h:BRow W B (.slice va n vc) (clT xs 1 n) bs) (en:(xs.getD 0 0).toNat=n):HasZ ⟨none,0,0,none,0,0,none,0,0,none,0,0,none,0,0,va,vc,gq,none,0,0,plbs bs⟩ (rdCerts xs):=by
 refine ⟨(fun _=>rfl),(fun _=>rfl),(fun _=>rfl),(fun _=>rfl),(fun _=>rfl),fun i hi e=>?_⟩
 have hi:i < n:=by
  have e1:(rdCerts xs).ce.length=n:=by show (clT _ _ _).length=_;rw [clT_len,en]
  rw [e1] at hi
  exact hi
 have hl:i < bs.length:=by rw [h.l,clT_len];exact hi
 have e:((plbs bs).getD i plb0).a=none:=e
 show ((plbs bs).getD i plb0).c=0
 rw [plbs_get hl] at e ⊢
 exact (h.b i (by rw [clT_len];exact hi)).n e
end Go.Proofs.YtmmbkkfjiaoeiaaGreat
namespace Go.Proofs.YtmmbkkfjiaoeiaaGreat
open Go Go.RowKit
set_option maxRecDepth 100000 in
set_option maxHeartbeats 8000000 in
theorem parseAnswer_any (w:World) (g:Nat) (a:Option Addr) (c:Nat) (xs:List Int) (hr:Rd w g a .u8 xs) (hb:Byt xs) (hx:xs.length≤8192) :
  Calls Tryz.prog 30 #[.int .i64 2,.slice a xs.length c] w fun e w'=>(∃ p,e = .returned (.agg (mgV p (rdAnswer xs)))∧HasM w' p (rdAnswer xs)∧HasZ p (rdAnswer xs)∧TyM w' p (rdAnswer xs)∧∀ g,g < w.heap.size→NoM g p (rdAnswer xs))∧Below w.heap.size w w':=by
 have P0:PS w ((((w.alloc (.cells #[.int .i64 0,.int .i64 0,.slice none 0 0,.slice none 0 0,.string ⟨#[]⟩,.slice none 0 0,.slice none 0 0,.int .i64 0,.int .i64 0,.slice none 0 0,.bool false,.slice none 0 0,.slice none 0 0] 26)).alloc (.cells #[.slice a xs.length c,.int .i64 0] 105)).alloc (.cells #[.int .i64 0,.int .i64 0,.slice none 0 0,.slice none 0 0,.string ⟨#[]⟩,.slice none 0 0,.slice none 0 0,.int .i64 0,.int .i64 0,.slice none 0 0,.bool false,.slice none 0 0,.slice none 0 0] 26)).setCells (w.heap.size+1+1) 0 [.int .i64 2,.int .i64 0,.slice none 0 0,.slice none 0 0,.string ⟨#[]⟩,.slice none 0 0,.slice none 0 0,.int .i64 0,.int .i64 0,.slice none 0 0,.bool false,.slice none 0 0,.slice none 0 0]) (.slice a xs.length c) 0 [.int .i64 2,.int .i64 0,.slice none 0 0,.slice none 0 0,.string ⟨#[]⟩,.slice none 0 0,.slice none 0 0,.int .i64 0,.int .i64 0,.slice none 0 0,.bool false,.slice none 0 0,.slice none 0 0]:=PS.start w (.slice a xs.length c) 2
 have THR:(((w.alloc (.cells #[.int .i64 0,.int .i64 0,.slice none 0 0,.slice none 0 0,.string ⟨#[]⟩,.slice none 0 0,.slice none 0 0,.int .i64 0,.int .i64 0,.slice none 0 0,.bool false,.slice none 0 0,.slice none 0 0] 26)).alloc (.cells #[.slice a xs.length c,.int .i64 0] 105)).alloc (.cells #[.int .i64 0,.int .i64 0,.slice none 0 0,.slice none 0 0,.string ⟨#[]⟩,.slice none 0 0,.slice none 0 0,.int .i64 0,.int .i64 0,.slice none 0 0,.bool false,.slice none 0 0,.slice none 0 0] 26)).there (w.heap.size+1+1) 0 13:=PS.room w (.slice a xs.length c)
 obtain ⟨d13,hd13,hrow13⟩:=rowM
 have HR:=hide hr
 clear hr
 go_enter Tryz.func30,Tryz.ntmps30
 go_upto_region 3 with (refine wpList_store_mid rfl 26 (.tmp 6) (.tmp 12) rfl (w.heap.size+1+1) 0 #[.int .i64 2,.int .i64 0,.slice none 0 0,.slice none 0 0,.string ⟨#[]⟩,.slice none 0 0,.slice none 0 0,.int .i64 0,.int .i64 0,.slice none 0 0,.bool false,.slice none 0 0,.slice none 0 0] rfl rfl THR iM (all_oneCell_toArray fun v hv=>by (simp only [List.mem_cons,List.not_mem_nil,or_false] at hv;rcases hv with rfl | rfl | rfl | rfl | rfl | rfl | rfl | rfl | rfl | rfl | rfl | rfl | rfl;all_goals rfl)) ?_)
 have PH:=hide P0
 clear P0 THR
 generalize (((w.alloc (.cells #[.int .i64 0,.int .i64 0,.slice none 0 0,.slice none 0 0,.string ⟨#[]⟩,.slice none 0 0,.slice none 0 0,.int .i64 0,.int .i64 0,.slice none 0 0,.bool false,.slice none 0 0,.slice none 0 0] 26)).alloc (.cells #[.slice a xs.length c,.int .i64 0] 105)).alloc (.cells #[.int .i64 0,.int .i64 0,.slice none 0 0,.slice none 0 0,.string ⟨#[]⟩,.slice none 0 0,.slice none 0 0,.int .i64 0,.int .i64 0,.slice none 0 0,.bool false,.slice none 0 0,.slice none 0 0] 26)).setCells (w.heap.size+1+1) 0 [.int .i64 2,.int .i64 0,.slice none 0 0,.slice none 0 0,.string ⟨#[]⟩,.slice none 0 0,.slice none 0 0,.int .i64 0,.int .i64 0,.slice none 0 0,.bool false,.slice none 0 0,.slice none 0 0]=W0 at *
 have NM:=hide (numM_any W0 (w.heap.size+1) g a c xs (0) 1 (HR.out.up PH.out.N) hb PH.out.Q (by omega) (by omega) (by decide))
 go_wp2_with fail
 refine NM.out.mono ?_
 rintro e V0 ⟨rfl,hQ,hT⟩
 have PV:=hide (PH.out.call hQ hT)
 clear NM hQ hT PH
 have PH:=PV
 clear PV
 have qT:V0.cell? ⟨w.heap.size+1+1,1,none⟩=some (.int .i64 0):=PH.out.T.cell 1
 have qF:=PH.out.T.free 1
 go_upto_region 17 with fail
 have PN:Hid (PS w (V0.setCell ⟨w.heap.size+1+1,1,none⟩ (.int .i64 (beN xs 0 1))) (.slice a xs.length c) _ [.int .i64 2,.int .i64 (beN xs 0 1),.slice none 0 0,.slice none 0 0,.string ⟨#[]⟩,.slice none 0 0,.slice none 0 0,.int .i64 0,.int .i64 0,.slice none 0 0,.bool false,.slice none 0 0,.slice none 0 0]):=PH.out.set 1 _
 clear qT qF PH
 generalize V0.setCell ⟨w.heap.size+1+1,1,none⟩ (.int .i64 (beN xs 0 1))=W1 at *
 have PH:=PN
 clear PN
 have lt:=PH.out.T.lt
 have NM:=hide (takeM_any W1 (w.heap.size+1) g a c xs (0+1) 32 (HR.out.up PH.out.N) PH.out.Q (by omega) (by omega) (by omega))
 go_wp2_with fail
 refine NM.out.mono ?_
 rintro e V2 ⟨rfl,B,hQ,hT⟩
 have PV:=hide (PH.out.call hQ hT)
 obtain ⟨G2,hG⟩:∃ G,W1.heap.size=G:=⟨_,rfl⟩
 rw [hG] at B lt ⊢
 have CG2:Hid (FB (w.heap.size+1+1) V2 G2 (tkB xs (0+1) 32)):=⟨B,lt⟩
 clear NM hQ hT PH B lt hG
 have PH:=PV
 clear PV
 have qT:V2.cell? ⟨w.heap.size+1+1,2,none⟩=some (.slice none 0 0):=PH.out.T.cell 2
 have qF:=PH.out.T.free 2
 go_upto_region 18 with fail
 have PN:Hid (PS w (V2.setCell ⟨w.heap.size+1+1,2,none⟩ (.slice (some ⟨G2,0,none⟩) 32 32)) (.slice a xs.length c) _ [.int .i64 2,.int .i64 (beN xs 0 1),.slice (some ⟨G2,0,none⟩) 32 32,.slice none 0 0,.string ⟨#[]⟩,.slice none 0 0,.slice none 0 0,.int .i64 0,.int .i64 0,.slice none 0 0,.bool false,.slice none 0 0,.slice none 0 0]):=PH.out.set 2 _
 have CG2':=hide (CG2.out.onl (Only.setCell V2 (w.heap.size+1+1) 2 (.slice (some ⟨G2,0,none⟩) 32 32)) (Nat.le_refl _))
 clear CG2
 have CG2:=CG2'
 clear CG2'
 clear qT qF PH
 generalize V2.setCell ⟨w.heap.size+1+1,2,none⟩ (.slice (some ⟨G2,0,none⟩) 32 32)=W3 at *
 have PH:=PN
 clear PN
 have lt:=PH.out.T.lt
 have NM:=hide (takeM_any W3 (w.heap.size+1) g a c xs (0+1+32) 32 (HR.out.up PH.out.N) PH.out.Q (by omega) (by omega) (by omega))
 go_wp2_with fail
 refine NM.out.mono ?_
 rintro e V4 ⟨rfl,B,hQ,hT⟩
 have PV:=hide (PH.out.call hQ hT)
 have CG2':=hide (CG2.out.tch hT (by omega))
 clear CG2
 have CG2:=CG2'
 clear CG2'
 obtain ⟨G3,hG⟩:∃ G,W3.heap.size=G:=⟨_,rfl⟩
 rw [hG] at B lt ⊢
 have CG3:Hid (FB (w.heap.size+1+1) V4 G3 (tkB xs (0+1+32) 32)):=⟨B,lt⟩
 clear NM hQ hT PH B lt hG
 have PH:=PV
 clear PV
 have qT:V4.cell? ⟨w.heap.size+1+1,3,none⟩=some (.slice none 0 0):=PH.out.T.cell 3
 have qF:=PH.out.T.free 3
 go_upto_region 19 with fail
 have PN:Hid (PS w (V4.setCell ⟨w.heap.size+1+1,3,none⟩ (.slice (some ⟨G3,0,none⟩) 32 32)) (.slice a xs.length c) _ [.int .i64 2,.int .i64 (beN xs 0 1),.slice (some ⟨G2,0,none⟩) 32 32,.slice (some ⟨G3,0,none⟩) 32 32,.string ⟨#[]⟩,.slice none 0 0,.slice none 0 0,.int .i64 0,.int .i64 0,.slice none 0 0,.bool false,.slice none 0 0,.slice none 0 0]):=PH.out.set 3 _
 have CG2':=hide (CG2.out.onl (Only.setCell V4 (w.heap.size+1+1) 3 (.slice (some ⟨G3,0,none⟩) 32 32)) (Nat.le_refl _))
 clear CG2
 have CG2:=CG2'
 clear CG2'
 have CG3':=hide (CG3.out.onl (Only.setCell V4 (w.heap.size+1+1) 3 (.slice (some ⟨G3,0,none⟩) 32 32)) (Nat.le_refl _))
 clear CG3
 have CG3:=CG3'
 clear CG3'
 clear qT qF PH
 generalize V4.setCell ⟨w.heap.size+1+1,3,none⟩ (.slice (some ⟨G3,0,none⟩) 32 32)=W5 at *
 have PH:=PN
 clear PN
 have NM:=hide (numM_any W5 (w.heap.size+1) g a c xs (0+1+32+32) 1 (HR.out.up PH.out.N) hb PH.out.Q (by omega) (by omega) (by decide))
 go_wp2_with fail
 refine NM.out.mono ?_
 rintro e V6 ⟨rfl,hQ,hT⟩
 have PV:=hide (PH.out.call hQ hT)
 have CG2':=hide (CG2.out.tch hT (by omega))
 clear CG2
 have CG2:=CG2'
 clear CG2'
 have CG3':=hide (CG3.out.tch hT (by omega))
 clear CG3
 have CG3:=CG3'
 clear CG3'
 clear NM hQ hT PH
 have PH:=PV
 clear PV
 have qT:V6.cell? ⟨w.heap.size+1+1,10,none⟩=some (.bool false):=PH.out.T.cell 10
 have qF:=PH.out.T.free 10
 go_upto_region 39 with fail
 have PN:Hid (PS w (V6.setCell ⟨w.heap.size+1+1,10,none⟩ (.bool (beN xs (0+1+32+32) 1 == 1))) (.slice a xs.length c) _ [.int .i64 2,.int .i64 (beN xs 0 1),.slice (some ⟨G2,0,none⟩) 32 32,.slice (some ⟨G3,0,none⟩) 32 32,.string ⟨#[]⟩,.slice none 0 0,.slice none 0 0,.int .i64 0,.int .i64 0,.slice none 0 0,.bool (beN xs (0+1+32+32) 1 == 1),.slice none 0 0,.slice none 0 0]):=PH.out.set 10 _
 have CG2':=hide (CG2.out.onl (Only.setCell V6 (w.heap.size+1+1) 10 (.bool (beN xs (0+1+32+32) 1 == 1))) (Nat.le_refl _))
 clear CG2
 have CG2:=CG2'
 clear CG2'
 have CG3':=hide (CG3.out.onl (Only.setCell V6 (w.heap.size+1+1) 10 (.bool (beN xs (0+1+32+32) 1 == 1))) (Nat.le_refl _))
 clear CG3
 have CG3:=CG3'
 clear CG3'
 clear qT qF PH
 generalize V6.setCell ⟨w.heap.size+1+1,10,none⟩ (.bool (beN xs (0+1+32+32) 1 == 1))=W7 at *
 have PH:=PN
 clear PN
 have RG:=PH.out.T.rangeG
 have THR:=PH.out.U.thereG
 have RR:=World.rangeAt_setCells_same W7 w.heap.size 0 [.int .i64 2,.int .i64 (beN xs 0 1),.slice (some ⟨G2,0,none⟩) 32 32,.slice (some ⟨G3,0,none⟩) 32 32,.string ⟨#[]⟩,.slice none 0 0,.slice none 0 0,.int .i64 0,.int .i64 0,.slice none 0 0,.bool (beN xs (0+1+32+32) 1 == 1),.slice none 0 0,.slice none 0 0] THR
 have OQ:=only_setG W7 w.heap.size [.int .i64 2,.int .i64 (beN xs 0 1),.slice (some ⟨G2,0,none⟩) 32 32,.slice (some ⟨G3,0,none⟩) 32 32,.string ⟨#[]⟩,.slice none 0 0,.slice none 0 0,.int .i64 0,.int .i64 0,.slice none 0 0,.bool (beN xs (0+1+32+32) 1 == 1),.slice none 0 0,.slice none 0 0] 0
 have N8:Hid (Below w.heap.size w (W7.setCells w.heap.size 0 [.int .i64 2,.int .i64 (beN xs 0 1),.slice (some ⟨G2,0,none⟩) 32 32,.slice (some ⟨G3,0,none⟩) 32 32,.string ⟨#[]⟩,.slice none 0 0,.slice none 0 0,.int .i64 0,.int .i64 0,.slice none 0 0,.bool (beN xs (0+1+32+32) 1 == 1),.slice none 0 0,.slice none 0 0])):=PH.out.N.trans (OQ.below (by omega))
 have CG2':=hide (CG2.out.onl OQ (by omega))
 clear CG2
 have CG2:=CG2'
 clear CG2'
 have CG3':=hide (CG3.out.onl OQ (by omega))
 clear CG3
 have CG3:=CG3'
 clear CG3'
 clear OQ PH
 have ON:([.int .i64 2,.int .i64 (beN xs 0 1),.slice (some ⟨G2,0,none⟩) 32 32,.slice (some ⟨G3,0,none⟩) 32 32,.string ⟨#[]⟩,.slice none 0 0,.slice none 0 0,.int .i64 0,.int .i64 0,.slice none 0 0,.bool (beN xs (0+1+32+32) 1 == 1),.slice none 0 0,.slice none 0 0]:List Value).toArray.all (·.oneCell')=true:=all_oneCell_toArray fun v hv=>by
  simp only [List.mem_cons,List.not_mem_nil,or_false] at hv
  rcases hv with rfl | rfl | rfl | rfl | rfl | rfl | rfl | rfl | rfl | rfl | rfl | rfl | rfl
  all_goals rfl
 have RES:Hid ((∃ p,Ending.returned (.agg #[.int .i64 2,.int .i64 (beN xs 0 1),.slice (some ⟨G2,0,none⟩) 32 32,.slice (some ⟨G3,0,none⟩) 32 32,.string ⟨#[]⟩,.slice none 0 0,.slice none 0 0,.int .i64 0,.int .i64 0,.slice none 0 0,.bool (beN xs (0+1+32+32) 1 == 1),.slice none 0 0,.slice none 0 0]) = .returned (.agg (mgV p (rdAnswer xs)))∧HasM (W7.setCells w.heap.size 0 [.int .i64 2,.int .i64 (beN xs 0 1),.slice (some ⟨G2,0,none⟩) 32 32,.slice (some ⟨G3,0,none⟩) 32 32,.string ⟨#[]⟩,.slice none 0 0,.slice none 0 0,.int .i64 0,.int .i64 0,.slice none 0 0,.bool (beN xs (0+1+32+32) 1 == 1),.slice none 0 0,.slice none 0 0]) p (rdAnswer xs)∧HasZ p (rdAnswer xs)∧TyM (W7.setCells w.heap.size 0 [.int .i64 2,.int .i64 (beN xs 0 1),.slice (some ⟨G2,0,none⟩) 32 32,.slice (some ⟨G3,0,none⟩) 32 32,.string ⟨#[]⟩,.slice none 0 0,.slice none 0 0,.int .i64 0,.int .i64 0,.slice none 0 0,.bool (beN xs (0+1+32+32) 1 == 1),.slice none 0 0,.slice none 0 0]) p (rdAnswer xs)∧∀ g,g < w.heap.size→NoM g p (rdAnswer xs))∧Below w.heap.size w (W7.setCells w.heap.size 0 [.int .i64 2,.int .i64 (beN xs 0 1),.slice (some ⟨G2,0,none⟩) 32 32,.slice (some ⟨G3,0,none⟩) 32 32,.string ⟨#[]⟩,.slice none 0 0,.slice none 0 0,.int .i64 0,.int .i64 0,.slice none 0 0,.bool (beN xs (0+1+32+32) 1 == 1),.slice none 0 0,.slice none 0 0])):=⟨⟨⟨some ⟨G2,0,none⟩,32,G2,some ⟨G3,0,none⟩,32,G3,none,0,0,none,0,0,none,0,0,none,0,0,none,0,0,[]⟩,by simp only [mgV,rdAnswer,tkB_len,List.length_nil],⟨CG2.out.1.own0.rd,CG3.out.1.own0.rd,rdT0 _ _ _,rd0 _ _ _ _,rd0 _ _ _ _,rdL0 _ _ _ _,rd0 _ _ _ _,Nat.zero_le _⟩,⟨(fun h=>by cases h),(fun h=>by cases h),(fun _=>rfl),(fun _=>rfl),(fun _=>rfl),fun i hi=>absurd hi (by simp [rdAnswer])⟩,⟨fun h=>absurd h (by simp [rdAnswer]),fun h=>absurd h (by simp [rdAnswer])⟩,(fun g hg=>⟨(fun _=>by have h2:=CG2.out.2;show G2≠_;omega),(fun _=>by have h2:=CG3.out.2;show G3≠_;omega),(fun h=>absurd h (by simp [rdAnswer])),(fun h=>absurd h (by simp [rdAnswer])),(fun h=>absurd h (by simp [rdAnswer])),(fun h=>absurd h (by simp [rdAnswer])),(fun i h=>absurd h (by simp [rdAnswer])),(fun h=>absurd h (by simp [rdAnswer]))⟩)⟩,N8.out⟩
 clear N8
 go_wp2_with (first
  | (refine wpList_load_mid rfl 26 (.tmp 6) rfl (w.heap.size+1+1) 0 rfl [.int .i64 2,.int .i64 (beN xs 0 1),.slice (some ⟨G2,0,none⟩) 32 32,.slice (some ⟨G3,0,none⟩) 32 32,.string ⟨#[]⟩,.slice none 0 0,.slice none 0 0,.int .i64 0,.int .i64 0,.slice none 0 0,.bool (beN xs (0+1+32+32) 1 == 1),.slice none 0 0,.slice none 0 0] d13 RG hd13 hrow13 iM ?_)
  | (refine wpList_store_mid rfl 26 (.tmp 4) (.tmp 124) rfl w.heap.size 0 #[.int .i64 2,.int .i64 (beN xs 0 1),.slice (some ⟨G2,0,none⟩) 32 32,.slice (some ⟨G3,0,none⟩) 32 32,.string ⟨#[]⟩,.slice none 0 0,.slice none 0 0,.int .i64 0,.int .i64 0,.slice none 0 0,.bool (beN xs (0+1+32+32) 1 == 1),.slice none 0 0,.slice none 0 0] rfl rfl THR iM ON ?_))
 exact bodyPost_ret (v := .agg #[.int .i64 2,.int .i64 (beN xs 0 1),.slice (some ⟨G2,0,none⟩) 32 32,.slice (some ⟨G3,0,none⟩) 32 32,.string ⟨#[]⟩,.slice none 0 0,.slice none 0 0,.int .i64 0,.int .i64 0,.slice none 0 0,.bool (beN xs (0+1+32+32) 1 == 1),.slice none 0 0,.slice none 0 0]) (results_cellG Tryz.results30 _ _ w.heap.size _ d13 rfl RR hd13 hrow13 iM) rfl RES.out
end Go.Proofs.YtmmbkkfjiaoeiaaGreat
namespace Go.Proofs.YtmmbkkfjiaoeiaaGreat
open Go Go.RowKit
set_option maxRecDepth 100000 in
set_option maxHeartbeats 8000000 in
theorem parseCerts_any (w : World) (g : Nat) (a : Option Addr) (c : Nat) (xs : List Int) (hr : Rd w g a .u8 xs) (hb : Byt xs) (hx : xs.length ≤ 8192) :
  Calls Tryz.prog 30 #[.int .i64 11,.slice a xs.length c] w fun e w'=>(∃ p,e = .returned (.agg (mgV p (rdCerts xs)))∧HasM w' p (rdCerts xs)∧HasZ p (rdCerts xs)∧TyM w' p (rdCerts xs)∧∀ g,g < w.heap.size→NoM g p (rdCerts xs))∧Below w.heap.size w w':=by
 have P0:PS w ((((w.alloc (.cells #[.int .i64 0,.int .i64 0,.slice none 0 0,.slice none 0 0,.string ⟨#[]⟩,.slice none 0 0,.slice none 0 0,.int .i64 0,.int .i64 0,.slice none 0 0,.bool false,.slice none 0 0,.slice none 0 0] 26)).alloc (.cells #[.slice a xs.length c,.int .i64 0] 105)).alloc (.cells #[.int .i64 0,.int .i64 0,.slice none 0 0,.slice none 0 0,.string ⟨#[]⟩,.slice none 0 0,.slice none 0 0,.int .i64 0,.int .i64 0,.slice none 0 0,.bool false,.slice none 0 0,.slice none 0 0] 26)).setCells (w.heap.size+1+1) 0 [.int .i64 11,.int .i64 0,.slice none 0 0,.slice none 0 0,.string ⟨#[]⟩,.slice none 0 0,.slice none 0 0,.int .i64 0,.int .i64 0,.slice none 0 0,.bool false,.slice none 0 0,.slice none 0 0]) (.slice a xs.length c) 0 [.int .i64 11,.int .i64 0,.slice none 0 0,.slice none 0 0,.string ⟨#[]⟩,.slice none 0 0,.slice none 0 0,.int .i64 0,.int .i64 0,.slice none 0 0,.bool false,.slice none 0 0,.slice none 0 0]:=PS.start w (.slice a xs.length c) 11
 have THR:(((w.alloc (.cells #[.int .i64 0,.int .i64 0,.slice none 0 0,.slice none 0 0,.string ⟨#[]⟩,.slice none 0 0,.slice none 0 0,.int .i64 0,.int .i64 0,.slice none 0 0,.bool false,.slice none 0 0,.slice none 0 0] 26)).alloc (.cells #[.slice a xs.length c,.int .i64 0] 105)).alloc (.cells #[.int .i64 0,.int .i64 0,.slice none 0 0,.slice none 0 0,.string ⟨#[]⟩,.slice none 0 0,.slice none 0 0,.int .i64 0,.int .i64 0,.slice none 0 0,.bool false,.slice none 0 0,.slice none 0 0] 26)).there (w.heap.size+1+1) 0 13:=PS.room w (.slice a xs.length c)
 obtain ⟨d13,hd13,hrow13⟩:=rowM
 have HR:=hide hr
 clear hr
 go_enter Tryz.func30,Tryz.ntmps30
 go_upto_region 3 with (refine wpList_store_mid rfl 26 (.tmp 6) (.tmp 12) rfl (w.heap.size+1+1) 0 #[.int .i64 11,.int .i64 0,.slice none 0 0,.slice none 0 0,.string ⟨#[]⟩,.slice none 0 0,.slice none 0 0,.int .i64 0,.int .i64 0,.slice none 0 0,.bool false,.slice none 0 0,.slice none 0 0] rfl rfl THR iM (all_oneCell_toArray fun v hv=>by (simp only [List.mem_cons,List.not_mem_nil,or_false] at hv;rcases hv with rfl | rfl | rfl | rfl | rfl | rfl | rfl | rfl | rfl | rfl | rfl | rfl | rfl;all_goals rfl)) ?_)
 have PH:=hide P0
 clear P0 THR
 generalize (((w.alloc (.cells #[.int .i64 0,.int .i64 0,.slice none 0 0,.slice none 0 0,.string ⟨#[]⟩,.slice none 0 0,.slice none 0 0,.int .i64 0,.int .i64 0,.slice none 0 0,.bool false,.slice none 0 0,.slice none 0 0] 26)).alloc (.cells #[.slice a xs.length c,.int .i64 0] 105)).alloc (.cells #[.int .i64 0,.int .i64 0,.slice none 0 0,.slice none 0 0,.string ⟨#[]⟩,.slice none 0 0,.slice none 0 0,.int .i64 0,.int .i64 0,.slice none 0 0,.bool false,.slice none 0 0,.slice none 0 0] 26)).setCells (w.heap.size+1+1) 0 [.int .i64 11,.int .i64 0,.slice none 0 0,.slice none 0 0,.string ⟨#[]⟩,.slice none 0 0,.slice none 0 0,.int .i64 0,.int .i64 0,.slice none 0 0,.bool false,.slice none 0 0,.slice none 0 0]=W0 at *
 obtain ⟨n,hn⟩:=Int.eq_ofNat_of_zero_le (hb 0).1
 have en:Hid ((xs.getD 0 0).toNat=n):=by show _=_;omega
 have nb:=bx1 hb 0
 rw [en.out] at nb
 have e3:beN xs 0 1=(n:Int):=by show beN xs 0 0*256+xs.getD (0+0) 0=_;rw [Nat.add_zero,hn];show 0*256+_=_;omega
 clear hn
 have NM:=hide (numM_any W0 (w.heap.size+1) g a c xs (0) 1 (HR.out.up PH.out.N) hb PH.out.Q (by omega) (by omega) (by decide))
 rw [e3] at NM
 clear e3
 go_wp2_with fail
 refine NM.out.mono ?_
 rintro e V0 ⟨rfl,hQ,hT⟩
 have PV:=hide (PH.out.call hQ hT)
 clear NM hQ hT PH
 have PH:=PV
 clear PV
 have R0:=hide (BRow.nil V0 (w.heap.size+1+1+1))
 go_upto_region 30 with fail
 go_loopw [7] (fun j wr=>∃ (k:Nat) (v:Value) (bs:List Plc),k≤n∧j = .int .i64 ((n - k:Nat):Int)∧PS w wr (.slice a xs.length c) (ppL xs 1 k) [.int .i64 11,.int .i64 0,.slice none 0 0,.slice none 0 0,.string ⟨#[]⟩,.slice none 0 0,.slice none 0 0,.int .i64 0,.int .i64 0,.slice none 0 0,.bool false,v,.slice none 0 0]∧BRow wr (w.heap.size+1+1+1) v (clT xs 1 k) bs) (fun j _=>(intOf j).toNat)
 case atStart=>exact ⟨0,_,[],Nat.zero_le _,rfl,PH.out,R0.out⟩
 case round =>
  obtain ⟨k,v,bs,hk,rfl,hP,hR⟩:=hrel
  clear PH R0
  by_cases hlt:k < n
  ·have t0 : decide ((0 : Int) < ((n - k : Nat) : Int)) = true := decide_eq_true (by omega)
   have t1:0 < n - k:=by omega
   have t2:IntKind.i64.wrap (((n - k:Nat):Int) - 1)=((n - (k+1):Nat):Int):=by rw [IntKind.wrap_i64];omega
   obtain ⟨m,hm⟩:=Int.eq_ofNat_of_zero_le (be_byte hb (ppL xs 1 k) 2 (by decide)).1
   have em:(beN xs (ppL xs 1 k) 2).toNat=m:=by omega
   have mb:=be2 hb (ppL xs 1 k)
   rw [em] at mb
   obtain ⟨x,hx'⟩:∃ x,Hid (tkB xs (ppL xs 1 k+2) m=x):=⟨_,rfl⟩
   have xl:x.length=m:=by rw [← hx'.out,tkB_len]
   have PB:=ppL_bd hb 1 k
   have tl:=hP.T.lt
   have N1:Hid (Calls Tryz.prog 50 #[.pointer (some ⟨w.heap.size+1,0,none⟩),.int .i64 2] wr.drew fun e w2=>e = .returned (.int .i64 (x.length:Int))∧w2.cell? ⟨w.heap.size+1+1,11,none⟩=some v∧Hid (Calls Tryz.prog 51 #[.pointer (some ⟨w.heap.size+1,0,none⟩),.int .i64 (x.length:Int)] w2 fun e w3=>∃ G,e = .returned (.slice (some ⟨G,0,none⟩) x.length x.length)∧w3.cell? ⟨w.heap.size+1+1,11,none⟩=some v∧(w3.alloc (.cells #[.slice (some ⟨G,0,none⟩) x.length x.length] 52)).cell? ⟨w.heap.size+1+1,11,none⟩=some v∧∃ v' w',(Builtin.append_ #[24,24] 24 #[v,.slice (some ⟨w3.heap.size,0,none⟩) 1 1]).run Tryz.prog (w3.alloc (.cells #[.slice (some ⟨G,0,none⟩) x.length x.length] 52)) = .ok v' w'∧((∃ a3 n3 c3,v' = .slice a3 n3 c3)∧w'.cell? ⟨w.heap.size+1+1,11,none⟩=some v∧w'.frozen? ⟨w.heap.size+1+1,11,none⟩=false∧∃ bs',Hid (PS w (w'.setCell ⟨w.heap.size+1+1,11,none⟩ v') (.slice a xs.length c) (ppL xs 1 (k+1)) [.int .i64 11,.int .i64 0,.slice none 0 0,.slice none 0 0,.string ⟨#[]⟩,.slice none 0 0,.slice none 0 0,.int .i64 0,.int .i64 0,.slice none 0 0,.bool false,v',.slice none 0 0]∧BRow (w'.setCell ⟨w.heap.size+1+1,11,none⟩ v') (w.heap.size+1+1+1) v' (clT xs 1 (k+1)) bs')))):=by
    have h0:PS w wr.drew (.slice a xs.length c) (ppL xs 1 k) [.int .i64 11,.int .i64 0,.slice none 0 0,.slice none 0 0,.string ⟨#[]⟩,.slice none 0 0,.slice none 0 0,.int .i64 0,.int .i64 0,.slice none 0 0,.bool false,v,.slice none 0 0]:=⟨hP.U,hP.Q,hP.T,hP.N.drew⟩
    refine (numM_any wr.drew (w.heap.size+1) g a c xs (ppL xs 1 k) 2 (HR.out.up h0.N) hb h0.Q (by omega) (by omega) (by decide)).mono ?_
    rintro e w2 ⟨rfl,Q2,T2⟩
    have h2:=h0.call Q2 T2
    have R2:BRow w2 (w.heap.size+1+1+1) v (clT xs 1 k) bs:=hR.of fun j hj hB=>T2.block j hj (by simp;omega)
    have s2:wr.heap.size≤w2.heap.size:=T2.size
    refine ⟨by rw [hm,xl],h2.T.cell 11,?_⟩
    show Calls _ _ _ _ _
    rw [xl]
    refine (takeM_any w2 (w.heap.size+1) g a c xs (ppL xs 1 k+2) m (HR.out.up h2.N) h2.Q (by omega) (by omega) (by omega)).mono ?_
    rintro e w3 ⟨rfl,B3,Q3,T3⟩
    rw [hx'.out] at B3
    have h3:=h2.call Q3 T3
    have R3:BRow w3 (w.heap.size+1+1+1) v (clT xs 1 k) bs:=R2.of fun j hj hB=>T3.block j hj (by simp;omega)
    have tl3:=h3.T.lt
    obtain ⟨v',w',ap,R4,kp4,N4,-⟩:=R3.app x ⟨some ⟨w2.heap.size,0,none⟩,x.length,w2.heap.size⟩ (by omega) ⟨B3.own0,(fun h=>by cases h),Nat.le_refl _⟩ wr.heap.size (by omega) (fun i hi h0=>hR.lt hi h0) hR.lim s2 (by rw [clT_len];omega)
    have U4:RwC w' w.heap.size zM 26:=(kp4 _ h3.U.lt (fun e=>by have:=(R3.o.lt _ e).1;omega)).trans h3.U
    have Q4:RwC w' (w.heap.size+1) [.slice a xs.length c,.int .i64 ((ppL xs 1 k+2+m:Nat):Int)] 105:=(kp4 _ h3.Q.lt (fun e=>by have:=(R3.o.lt _ e).1;omega)).trans h3.Q
    have T4:RwC w' (w.heap.size+1+1) [.int .i64 11,.int .i64 0,.slice none 0 0,.slice none 0 0,.string ⟨#[]⟩,.slice none 0 0,.slice none 0 0,.int .i64 0,.int .i64 0,.slice none 0 0,.bool false,v,.slice none 0 0] 26:=(kp4 _ h3.T.lt (fun e=>by have:=(R3.o.lt _ e).1;omega)).trans h3.T
    have h4:PS w w' (.slice a xs.length c) (ppL xs 1 k+2+m) [.int .i64 11,.int .i64 0,.slice none 0 0,.slice none 0 0,.string ⟨#[]⟩,.slice none 0 0,.slice none 0 0,.int .i64 0,.int .i64 0,.slice none 0 0,.bool false,v,.slice none 0 0]:=⟨U4,Q4,T4,h3.N.trans (N4.mono (by omega))⟩
    refine ⟨w2.heap.size,rfl,h3.T.cell 11,(h3.T.up ((Below.refl _ _).alloc (Nat.le_refl _) _)).cell 11,v',w',by rw [xl] at ap;exact ap,(by obtain ⟨a3,c3,e3,-⟩:=R4.slice;exact ⟨a3,_,c3,e3⟩),T4.cell 11,T4.free 11,bs ++ [⟨some ⟨w2.heap.size,0,none⟩,x.length,w2.heap.size⟩],?_,?_⟩
    ·have e2 : ppL xs 1 (k + 1) = ppL xs 1 k + 2 + m := by show ppL xs 1 k + 2 + (beN xs (ppL xs 1 k) 2).toNat = _; rw [em]
     rw [e2]
     exact h4.set 11 v'
    ·rw [clT_step, em, hx'.out]
     exact R4.onl (Only.setCell w' (w.heap.size+1+1) 11 v') (by omega)
   have c11:=hP.T.cell 11
   have c11:wr.cell? ⟨w.heap.size+1+1,11,none⟩=some v:=c11
   clear hP hR xl mb em hm PB tl hx'
   go_wp2
   go_region_law (first
    | (go_simp;go_at_call 50;refine N1.out.mono ?_;rintro e w2 ⟨rfl,m2,TK⟩)
    | (go_simp;go_at_call 51;refine TK.out.mono ?_;rintro e w3 ⟨G,rfl,m3,m4,AP⟩)
    | (refine step_append_exM rfl (.tmp 100) (.tmp 106) 24 24 rfl v (.slice (some ⟨w3.heap.size,0,none⟩) 1 1) rfl rfl _ AP ?_;rintro v3 w4 ⟨⟨a3,n3,c3,rfl⟩,m5,f5,bs',FF⟩)
    | fail)
   all_goals
    go_wp2
    go_roundw
    case rel=>exact ⟨k+1,_,bs',by omega,by first | rfl | (congr 1;omega) | go_num,FF.out.1,FF.out.2⟩
    case measure=>simp [intOf];omega
  ·obtain rfl : k = n := by omega
   have t0:k - k=0:=by omega
   obtain ⟨va,vc,hv,-⟩:=hR.slice
   rw [clT_len] at hv
   subst hv
   have PH:=hide hP
   have CL:=hide hR
   clear hP hR hlt
   go_upto_region 39 with fail
   have RG:=PH.out.T.rangeG
   have THR:=PH.out.U.thereG
   have RR:=World.rangeAt_setCells_same wr w.heap.size 0 [.int .i64 11,.int .i64 0,.slice none 0 0,.slice none 0 0,.string ⟨#[]⟩,.slice none 0 0,.slice none 0 0,.int .i64 0,.int .i64 0,.slice none 0 0,.bool false,.slice va k vc,.slice none 0 0] THR
   have OQ:=only_setG wr w.heap.size [.int .i64 11,.int .i64 0,.slice none 0 0,.slice none 0 0,.string ⟨#[]⟩,.slice none 0 0,.slice none 0 0,.int .i64 0,.int .i64 0,.slice none 0 0,.bool false,.slice va k vc,.slice none 0 0] 0
   have N8:Hid (Below w.heap.size w (wr.setCells w.heap.size 0 [.int .i64 11,.int .i64 0,.slice none 0 0,.slice none 0 0,.string ⟨#[]⟩,.slice none 0 0,.slice none 0 0,.int .i64 0,.int .i64 0,.slice none 0 0,.bool false,.slice va k vc,.slice none 0 0])):=PH.out.N.trans (OQ.below (by omega))
   have CL':=hide (CL.out.onl OQ (by omega))
   clear CL
   have CL:=CL'
   clear CL'
   clear OQ PH
   have ON:([.int .i64 11,.int .i64 0,.slice none 0 0,.slice none 0 0,.string ⟨#[]⟩,.slice none 0 0,.slice none 0 0,.int .i64 0,.int .i64 0,.slice none 0 0,.bool false,.slice va k vc,.slice none 0 0]:List Value).toArray.all (·.oneCell')=true:=all_oneCell_toArray fun v hv=>by
    simp only [List.mem_cons,List.not_mem_nil,or_false] at hv
    rcases hv with rfl | rfl | rfl | rfl | rfl | rfl | rfl | rfl | rfl | rfl | rfl | rfl | rfl
    all_goals rfl
   obtain ⟨-,-,gr,hrd,hty⟩:=BRow.rdL CL.out
   have RES:Hid ((∃ p,Ending.returned (.agg #[.int .i64 11,.int .i64 0,.slice none 0 0,.slice none 0 0,.string ⟨#[]⟩,.slice none 0 0,.slice none 0 0,.int .i64 0,.int .i64 0,.slice none 0 0,.bool false,.slice va k vc,.slice none 0 0]) = .returned (.agg (mgV p (rdCerts xs)))∧HasM (wr.setCells w.heap.size 0 [.int .i64 11,.int .i64 0,.slice none 0 0,.slice none 0 0,.string ⟨#[]⟩,.slice none 0 0,.slice none 0 0,.int .i64 0,.int .i64 0,.slice none 0 0,.bool false,.slice va k vc,.slice none 0 0]) p (rdCerts xs)∧HasZ p (rdCerts xs)∧TyM (wr.setCells w.heap.size 0 [.int .i64 11,.int .i64 0,.slice none 0 0,.slice none 0 0,.string ⟨#[]⟩,.slice none 0 0,.slice none 0 0,.int .i64 0,.int .i64 0,.slice none 0 0,.bool false,.slice va k vc,.slice none 0 0]) p (rdCerts xs)∧∀ g,g < w.heap.size→NoM g p (rdCerts xs))∧Below w.heap.size w (wr.setCells w.heap.size 0 [.int .i64 11,.int .i64 0,.slice none 0 0,.slice none 0 0,.string ⟨#[]⟩,.slice none 0 0,.slice none 0 0,.int .i64 0,.int .i64 0,.slice none 0 0,.bool false,.slice va k vc,.slice none 0 0])):=⟨⟨⟨none,0,0,none,0,0,none,0,0,none,0,0,none,0,0,va,vc,gr,none,0,0,plbs bs⟩,(by simp only [mgV,rdCerts,clT_len,List.length_nil,en.out]),⟨rd0 _ _ _ _,rd0 _ _ _ _,rdT0 _ _ _,rd0 _ _ _ _,rd0 _ _ _ _,(by show RdL _ _ _ (clT xs 1 (xs.getD 0 0).toNat) _;rw [en.out];exact hrd),rd0 _ _ _ _,Nat.zero_le _⟩,certsZ CL.out en.out,⟨fun h=>absurd h (by simp [rdCerts]),fun h=>(hty (by rw [clT_len];have h:0 < (clT xs 1 (xs.getD 0 0).toNat).length:=h;rw [clT_len,en.out] at h;exact h)).1⟩,(fun g hg=>⟨(fun h=>absurd h (by simp [rdCerts])),(fun h=>absurd h (by simp [rdCerts])),(fun h=>absurd h (by simp [rdCerts])),(fun h=>absurd h (by simp [rdCerts])),(fun h=>absurd h (by simp [rdCerts])),(fun h=>by have h:0 < (clT xs 1 (xs.getD 0 0).toNat).length:=h;rw [clT_len,en.out] at h;have h2:=(hty (by rw [clT_len];exact h)).2;show gr≠_;omega),(fun i hi h0=>by have hi:i < (clT xs 1 (xs.getD 0 0).toNat).length:=hi;have h0:0 < ((clT xs 1 (xs.getD 0 0).toNat).getD i []).length:=h0;rw [en.out] at hi h0;have h2:=(CL.out.h i hi h0).1;show ((plbs bs).getD i plb0).q≠_;rw [plbs_get (by rw [CL.out.l];exact hi)];show (bs.getD i plc0).q≠_;omega),(fun h=>absurd h (by simp [rdCerts]))⟩)⟩,N8.out⟩
   clear N8
   clear hrd hty
   go_wp2_with (first
    | (refine wpList_load_mid rfl 26 (.tmp 6) rfl (w.heap.size+1+1) 0 rfl [.int .i64 11,.int .i64 0,.slice none 0 0,.slice none 0 0,.string ⟨#[]⟩,.slice none 0 0,.slice none 0 0,.int .i64 0,.int .i64 0,.slice none 0 0,.bool false,.slice va k vc,.slice none 0 0] d13 RG hd13 hrow13 iM ?_)
    | (refine wpList_store_mid rfl 26 (.tmp 4) (.tmp 124) rfl w.heap.size 0 #[.int .i64 11,.int .i64 0,.slice none 0 0,.slice none 0 0,.string ⟨#[]⟩,.slice none 0 0,.slice none 0 0,.int .i64 0,.int .i64 0,.slice none 0 0,.bool false,.slice va k vc,.slice none 0 0] rfl rfl THR iM ON ?_))
   exact bodyPost_ret (v := .agg #[.int .i64 11,.int .i64 0,.slice none 0 0,.slice none 0 0,.string ⟨#[]⟩,.slice none 0 0,.slice none 0 0,.int .i64 0,.int .i64 0,.slice none 0 0,.bool false,.slice va k vc,.slice none 0 0]) (results_cellG Tryz.results30 _ _ w.heap.size _ d13 rfl RR hd13 hrow13 iM) rfl RES.out
end Go.Proofs.YtmmbkkfjiaoeiaaGreat
