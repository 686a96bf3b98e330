import Derived.Test.YtmmbkkfjiaoeiaaGreatGV2
import Derived.WideMake
namespace Go.Proofs.YtmmbkkfjiaoeiaaGreat
open Go Go.RowKit
def heF (v:Int) (r s:Nat) (host:List UInt8) (ls:List (List UInt8)) (t b:Nat) (g e:Int):Int :=
 if (fpB v r s || !bdB t b g e)=true then 3 else if nameF host≠0 then 4 else if prB ls 8=false then 5 else if 400 < t then 6 else if (!ageB g || !flgB e)=true then 7 else 0
set_option maxHeartbeats 1000000 in
theorem helloFault_any (w : World) (q : Nat) (v : Int) (a1 a2 a4 a5 a8 : Option Addr) (r s t b c1 c2 c4 c5 c8 gp : Nat) (host : List UInt8) (ls : List (List UInt8)) (g e : Int)
    (hr:r≤1048576) (hs:s≤1048576) (ht:t≤1048576) (hb:b≤1048576) (hh:host.length≤1048576) (hp:RdT w gp a4 ls) (hc:ls.length≤c4) (hn:ls.length≤1048576) (hz:∀ l ∈ ls,l.length≤1048576)
    (h0:w.cell? ⟨q,0,none⟩=some (.int .i64 v)) (h1:w.cell? ⟨q,1,none⟩=some (.slice a1 r c1)) (h2:w.cell? ⟨q,2,none⟩=some (.slice a2 s c2)) (h3:w.cell? ⟨q,3,none⟩=some (.string ⟨⟨host⟩⟩)) (h4:w.cell? ⟨q,4,none⟩=some (.slice a4 ls.length c4))
    (h5:w.cell? ⟨q,5,none⟩=some (.slice a5 t c5)) (h6:w.cell? ⟨q,6,none⟩=some (.int .i64 g)) (h7:w.cell? ⟨q,7,none⟩=some (.int .i64 e)) (h8:w.cell? ⟨q,8,none⟩=some (.slice a8 b c8)) :
    Calls Tryz.prog 88 #[.pointer (some ⟨q,0,none⟩)] w fun x w'=>x = .returned (.int .i64 (heF v r s host ls t b g e))∧w'=w:=by
  have E:=hide (show heF v r s host ls t b g e=if (fpB v r s || !bdB t b g e)=true then 3 else if nameF host≠0 then 4 else if prB ls 8=false then 5 else if 400 < t then 6 else if (!ageB g || !flgB e)=true then 7 else 0 from rfl)
  have FF:=hide (firstFault_any w q v a1 a2 r s c1 c2 hr hs h0 h1 h2)
  have IB:=hide (isBound_any w q a5 a8 t b c5 c8 g e ht hb h5 h6 h7 h8)
  have NF:=hide (implNameFault_any w host (by omega))
  have AP:=hide (areProtocols_any w gp a4 c4 ls 8 hp hc hn (by decide) hz)
  have AG:=hide (isAge_any w g)
  have FL:=hide (isFlag_any w e)
  clear hp hc hn hz
  generalize heF v r s host ls t b g e=f at *
  have FE:fpF v r s=if fpB v r s=true then 3 else 0:=rfl
  rw [FE] at FF
  clear FE
  generalize fpB v r s=x1 at *
  generalize bdB t b g e=x2 at *
  generalize nameF host=x3 at *
  generalize prB ls 8=x4 at *
  generalize ageB g=x5 at *
  generalize flgB e=x6 at *
  cases x1 with
  | true =>
    obtain rfl:f=3:=E.out
    clear E IB NF AP AG FL
    simp only [if_pos] at FF
    go_enter Tryz.func88,Tryz.ntmps88
    go_wp2_with fail
    refine FF.out.mono ?_
    rintro x w1 ⟨rfl,rfl⟩
    go_wp2
    go_ret
    exact ⟨rfl,rfl⟩
  | false =>
    simp only [Bool.false_eq_true,if_false] at FF
    cases x2 with
    | false =>
      obtain rfl:f=3:=E.out
      clear E NF AP AG FL
      go_enter Tryz.func88,Tryz.ntmps88
      go_wp2_with fail
      refine FF.out.mono ?_
      rintro x w1 ⟨rfl,rfl⟩
      go_wp2_with fail
      refine IB.out.mono ?_
      rintro x w1 ⟨rfl,rfl⟩
      go_wp2
      go_ret
      exact ⟨rfl,rfl⟩
    | true =>
      by_cases k3:x3=0
      · subst k3
        cases x4 with
        | false =>
          obtain rfl:f=5:=E.out
          clear E AG FL
          go_enter Tryz.func88,Tryz.ntmps88
          go_wp2_with fail
          refine FF.out.mono ?_
          rintro x w1 ⟨rfl,rfl⟩
          go_wp2_with fail
          refine IB.out.mono ?_
          rintro x w1 ⟨rfl,rfl⟩
          go_wp2_with fail
          refine NF.out.mono ?_
          rintro x w1 ⟨rfl,rfl⟩
          go_wp2_with fail
          refine AP.out.mono ?_
          rintro x w1 ⟨rfl,rfl⟩
          go_wp2
          go_ret
          exact ⟨rfl,rfl⟩
        | true =>
          by_cases k5:400 < t
          · have EF : f = 6 := by rw [E.out]; simp [k5]
            subst EF
            have d5:decide ((400:Int) < (t:Int))=true:=by simp;omega
            clear E AG FL
            go_enter Tryz.func88,Tryz.ntmps88
            go_wp2_with fail
            refine FF.out.mono ?_
            rintro x w1 ⟨rfl,rfl⟩
            go_wp2_with fail
            refine IB.out.mono ?_
            rintro x w1 ⟨rfl,rfl⟩
            go_wp2_with fail
            refine NF.out.mono ?_
            rintro x w1 ⟨rfl,rfl⟩
            go_wp2_with fail
            refine AP.out.mono ?_
            rintro x w1 ⟨rfl,rfl⟩
            go_wp2
            go_ret
            exact ⟨rfl,rfl⟩
          · have d5 : decide ((400 : Int) < (t : Int)) = false := by simp; omega
            have EF:=hide (show f=if (!x5 || !x6)=true then 7 else 0 by rw [E.out];simp [k5])
            clear E
            go_enter Tryz.func88,Tryz.ntmps88
            go_wp2_with fail
            refine FF.out.mono ?_
            rintro x w1 ⟨rfl,rfl⟩
            go_wp2_with fail
            refine IB.out.mono ?_
            rintro x w1 ⟨rfl,rfl⟩
            go_wp2_with fail
            refine NF.out.mono ?_
            rintro x w1 ⟨rfl,rfl⟩
            go_wp2_with fail
            refine AP.out.mono ?_
            rintro x w1 ⟨rfl,rfl⟩
            go_wp2_with fail
            refine AG.out.mono ?_
            rintro x w1 ⟨rfl,rfl⟩
            cases x5 with
            | false =>
              go_wp2
              go_ret
              exact ⟨by rw [EF.out];rfl,rfl⟩
            | true =>
              go_wp2_with fail
              refine FL.out.mono ?_
              rintro x w1 ⟨rfl,rfl⟩
              cases x6 with
              | false =>
                go_wp2
                go_ret
                exact ⟨by rw [EF.out];rfl,rfl⟩
              | true =>
                go_wp2
                go_ret
                exact ⟨by rw [EF.out];rfl,rfl⟩
      · have EF : f = 4 := by rw [E.out]; simp [k3]
        subst EF
        have d3:(x3 != 0)=true:=by simpa using k3
        clear E AP AG FL
        go_enter Tryz.func88,Tryz.ntmps88
        go_wp2_with fail
        refine FF.out.mono ?_
        rintro x w1 ⟨rfl,rfl⟩
        go_wp2_with fail
        refine IB.out.mono ?_
        rintro x w1 ⟨rfl,rfl⟩
        go_wp2_with fail
        refine NF.out.mono ?_
        rintro x w1 ⟨rfl,rfl⟩
        go_wp2
        go_ret
        exact ⟨rfl,rfl⟩
end Go.Proofs.YtmmbkkfjiaoeiaaGreat
namespace Go.Proofs.YtmmbkkfjiaoeiaaGreat
open Go Go.RowKit
def tiF (g e:Int) (r t:Nat):Int:=if r≠32 then 3 else if t=0∨400 < t then 6 else if (!ageB g || !ageB e)=true then 7 else 0
set_option maxHeartbeats 1000000 in
theorem ticketFault_any (w : World) (q : Nat) (g e : Int) (a2 a3 : Option Addr) (r t c2 c3 : Nat) (hr : r ≤ 1048576) (ht : t ≤ 1048576)
    (h0:w.cell? ⟨q,0,none⟩=some (.int .i64 g)) (h1:w.cell? ⟨q,1,none⟩=some (.int .i64 e)) (h2:w.cell? ⟨q,2,none⟩=some (.slice a2 r c2)) (h3:w.cell? ⟨q,3,none⟩=some (.slice a3 t c3)) :
    Calls Tryz.prog 118 #[.pointer (some ⟨q,0,none⟩)] w fun x w'=>x = .returned (.int .i64 (tiF g e r t))∧w'=w:=by
  have E:=hide (show tiF g e r t=if r≠32 then 3 else if t=0∨400 < t then 6 else if (!ageB g || !ageB e)=true then 7 else 0 from rfl)
  have AG:=hide (isAge_any w g)
  have AE:=hide (isAge_any w e)
  generalize tiF g e r t=f at *
  generalize ageB g=x5 at *
  generalize ageB e=x6 at *
  by_cases k0:r=32
  · subst k0
    by_cases k1:t=0
    · subst k1
      have EF:f=6:=by rw [E.out];simp
      subst EF
      clear E AG AE
      go_enter Tryz.func118,Tryz.ntmps118
      go_wp2
      go_ret
      exact ⟨rfl,rfl⟩
    · have d1 : ((t : Int) == 0) = false := by simp; omega
      by_cases k2:400 < t
      · have EF : f = 6 := by rw [E.out]; simp [k2]
        subst EF
        have d2:decide ((400:Int) < (t:Int))=true:=by simp;omega
        clear E AG AE
        go_enter Tryz.func118,Tryz.ntmps118
        go_wp2
        go_ret
        exact ⟨rfl,rfl⟩
      · have EF := hide (show f = if (!x5 || !x6) = true then 7 else 0 by rw [E.out]; simp [k1, k2])
        have d2:decide ((400:Int) < (t:Int))=false:=by simp;omega
        clear E
        go_enter Tryz.func118,Tryz.ntmps118
        go_wp2_with fail
        refine AG.out.mono ?_
        rintro x w1 ⟨rfl,rfl⟩
        cases x5 with
        | false =>
          go_wp2
          go_ret
          exact ⟨by rw [EF.out];rfl,rfl⟩
        | true =>
          go_wp2_with fail
          refine AE.out.mono ?_
          rintro x w1 ⟨rfl,rfl⟩
          cases x6 with
          | false =>
            go_wp2
            go_ret
            exact ⟨by rw [EF.out];rfl,rfl⟩
          | true =>
            go_wp2
            go_ret
            exact ⟨by rw [EF.out];rfl,rfl⟩
  · have EF : f = 3 := by rw [E.out]; simp [k0]
    subst EF
    have d0:((r:Int) != 32)=true:=by simp;omega
    clear E AG AE
    go_enter Tryz.func118,Tryz.ntmps118
    go_wp2
    go_ret
    exact ⟨rfl,rfl⟩
def exF (ls:List (List UInt8)) (e:Int):Int:=if prB ls 1=false then 5 else if flgB e=false then 7 else 0
set_option maxHeartbeats 1000000 in
theorem extrasFault_any (w:World) (q:Nat) (a0:Option Addr) (c0 gp:Nat) (ls:List (List UInt8)) (e:Int) (hp:RdT w gp a0 ls) (hc:ls.length≤c0) (hn:ls.length≤1048576) (hz:∀ l ∈ ls,l.length≤1048576)
    (h0:w.cell? ⟨q,0,none⟩=some (.slice a0 ls.length c0)) (h1:w.cell? ⟨q,1,none⟩=some (.int .i64 e)) :
    Calls Tryz.prog 126 #[.pointer (some ⟨q,0,none⟩)] w fun x w'=>x = .returned (.int .i64 (exF ls e))∧w'=w:=by
  have E:=hide (show exF ls e=if prB ls 1=false then 5 else if flgB e=false then 7 else 0 from rfl)
  have AP:=hide (areProtocols_any w gp a0 c0 ls 1 hp hc hn (by decide) hz)
  have FL:=hide (isFlag_any w e)
  clear hp hc hn hz
  generalize exF ls e=f at *
  generalize prB ls 1=x4 at *
  generalize flgB e=x6 at *
  cases x4 with
  | false =>
    obtain rfl:f=5:=E.out
    clear E FL
    go_enter Tryz.func126,Tryz.ntmps126
    go_wp2_with fail
    refine AP.out.mono ?_
    rintro x w1 ⟨rfl,rfl⟩
    go_wp2
    go_ret
    exact ⟨rfl,rfl⟩
  | true =>
    go_enter Tryz.func126,Tryz.ntmps126
    go_wp2_with fail
    refine AP.out.mono ?_
    rintro x w1 ⟨rfl,rfl⟩
    go_wp2_with fail
    refine FL.out.mono ?_
    rintro x w1 ⟨rfl,rfl⟩
    cases x6 with
    | false =>
      go_wp2
      go_ret
      exact ⟨by rw [E.out];rfl,rfl⟩
    | true =>
      go_wp2
      go_ret
      exact ⟨by rw [E.out];rfl,rfl⟩
def pfF (n:Nat) (k:Nat):Int:=if k≠n then 3 else 0
theorem proofFault_any (w:World) (q:Nat) (a0:Option Addr) (k c0:Nat) (hk:k≤1048576) (h0:w.cell? ⟨q,0,none⟩=some (.slice a0 k c0)) :
  Calls Tryz.prog 137 #[.pointer (some ⟨q,0,none⟩)] w fun x w'=>x = .returned (.int .i64 (pfF 64 k))∧w'=w:=by
 have E:=hide (show pfF 64 k=if k≠64 then 3 else 0 from rfl)
 generalize pfF 64 k=f at *
 by_cases k0:k=64
 ·subst k0
  obtain rfl:f=0:=E.out
  go_enter Tryz.func137,Tryz.ntmps137
  go_wp2
  go_ret
  exact ⟨rfl,rfl⟩
 ·have EF : f = 3 := by rw [E.out]; simp [k0]
  subst EF
  have d0:((k:Int) != 64)=true:=by simp;omega
  go_enter Tryz.func137,Tryz.ntmps137
  go_wp2
  go_ret
  exact ⟨rfl,rfl⟩
theorem finishedFault_any (w:World) (q:Nat) (a0:Option Addr) (k c0:Nat) (hk:k≤1048576) (h0:w.cell? ⟨q,0,none⟩=some (.slice a0 k c0)) :
  Calls Tryz.prog 142 #[.pointer (some ⟨q,0,none⟩)] w fun x w'=>x = .returned (.int .i64 (pfF 32 k))∧w'=w:=by
 have E:=hide (show pfF 32 k=if k≠32 then 3 else 0 from rfl)
 generalize pfF 32 k=f at *
 by_cases k0:k=32
 ·subst k0
  obtain rfl:f=0:=E.out
  go_enter Tryz.func142,Tryz.ntmps142
  go_wp2
  go_ret
  exact ⟨rfl,rfl⟩
 ·have EF : f = 3 := by rw [E.out]; simp [k0]
  subst EF
  have d0:((k:Int) != 32)=true:=by simp;omega
  go_enter Tryz.func142,Tryz.ntmps142
  go_wp2
  go_ret
  exact ⟨rfl,rfl⟩
def upF (e:Int):Int:=if flgB e=false then 7 else 0
theorem updateFault_any (w:World) (q:Nat) (e:Int) (h0:w.cell? ⟨q,0,none⟩=some (.int .i64 e)) :
    Calls Tryz.prog 146 #[.pointer (some ⟨q,0,none⟩)] w fun x w'=>x = .returned (.int .i64 (upF e))∧w'=w:=by
  have E:=hide (show upF e=if flgB e=false then 7 else 0 from rfl)
  have FL:=hide (isFlag_any w e)
  generalize upF e=f at *
  generalize flgB e=x6 at *
  go_enter Tryz.func146,Tryz.ntmps146
  go_wp2_with fail
  refine FL.out.mono ?_
  rintro x w1 ⟨rfl,rfl⟩
  cases x6 with
  | false =>
    go_wp2
    go_ret
    exact ⟨by rw [E.out];rfl,rfl⟩
  | true =>
    go_wp2
    go_ret
    exact ⟨by rw [E.out];rfl,rfl⟩
theorem endFault_any (w:World) (v:Value):Calls Tryz.prog 122 #[v] w fun x w'=>x = .returned (.int .i64 0)∧w'=w:=by
 go_enter Tryz.func122,Tryz.ntmps122
 go_wp2
 go_ret
 exact ⟨rfl,rfl⟩
end Go.Proofs.YtmmbkkfjiaoeiaaGreat
namespace Go.Proofs.YtmmbkkfjiaoeiaaGreat
open Go Go.RowKit
theorem mapPut (w:World) (r clock:Nat) (es:Array MapEntry) (k:Int) (val:Value) (hb:w.heap[r]?=some (.map es clock)) (hf:Instr.findNow (.int .i64) (.int .i64 k) es.toList 0=some none) :
  ∃ w',(Instr.mapUpdate 54 (.map (some r)) (.int .i64 k) val).run Tryz.prog w = .ok () w'∧w'.heap[r]?=some (.map (es.push { key := .int .i64 k,val:=val,born:=clock }) (clock+1))∧Only r w w':=by
 have hm:=Tryz.underlying54
 have hk:Tryz.prog.underlying 2=some (.int .i64):=by kernel_rfl
 have hc:(Instr.checkKey false 10000 2 (.int .i64 k)).run Tryz.prog w = .ok () w:=MapKept.run_checkKey (k := .int .i64 k) hk (by simp [MapKept.IsKey]) false 9999
 have hr:r < w.heap.size:=(Array.getElem?_eq_some_iff.1 hb).1
 refine ⟨{ w with heap:=w.heap.setIfInBounds r (.map (es.push { key := .int .i64 k,val:=val,born:=clock }) (clock+1)) },?_,?_,?_⟩
 ·simp [Instr.mapUpdate,run_underlying hm,MapKept.run_getObj_map hb,hc,MapKept.run_findKey hk hf,MapKept.run_setObj_map _ hb,Result.andThen]
 ·show (w.heap.setIfInBounds r _)[r]? = _
  rw [Array.getElem?_setIfInBounds_self,if_pos hr]
 ·exact ⟨rfl,rfl,rfl,by simp,fun g hg=>by
   show (w.heap.setIfInBounds r _)[g]?=_
   rw [Array.getElem?_setIfInBounds_ne (Ne.symm hg)]⟩
def regE:Array MapEntry := #[{ key := .int .i64 1,val := .func (Fn.func 39) #[] #[],born:=0 },{ key := .int .i64 2,val := .func (Fn.func 40) #[] #[],born:=1 },{ key := .int .i64 4,val := .func (Fn.func 41) #[] #[],born:=2 },{ key := .int .i64 5,val := .func (Fn.func 42) #[] #[],born:=3 },{ key := .int .i64 8,val := .func (Fn.func 43) #[] #[],born:=4 },{ key := .int .i64 11,val := .func (Fn.func 44) #[] #[],born:=5 },{ key := .int .i64 15,val := .func (Fn.func 45) #[] #[],born:=6 },{ key := .int .i64 20,val := .func (Fn.func 46) #[] #[],born:=7 },{ key := .int .i64 24,val := .func (Fn.func 47) #[] #[],born:=8 }]
set_option maxRecDepth 20000 in
set_option maxHeartbeats 1000000 in
theorem messageKinds_any (w:World):Calls Tryz.prog 23 #[] w fun e w'=>e = .returned (.map (some w.heap.size))∧w'.heap[w.heap.size]?=some (.map regE 9)∧Below w.heap.size w w':=by
 have hmm := @run_makeMap Tryz.prog
 have b0:(w.alloc (.map #[] 0)).heap[w.heap.size]?=some (.map #[] 0):=heap_alloc_new w _
 have n0:Below w.heap.size w (w.alloc (.map #[] 0)):=(Below.refl _ _).alloc (Nat.le_refl _) _
 obtain ⟨w1,u1,b1,o1⟩:=mapPut (w.alloc (.map #[] 0)) w.heap.size 0 #[] 1 (.func (Fn.func 39) #[] #[]) b0 rfl
 have n1:=n0.trans (o1.below (Nat.le_refl _))
 obtain ⟨w2,u2,b2,o2⟩:=mapPut w1 w.heap.size 1 #[{ key := .int .i64 1,val := .func (Fn.func 39) #[] #[],born:=0 }] 2 (.func (Fn.func 40) #[] #[]) b1 rfl
 have n2:=n1.trans (o2.below (Nat.le_refl _))
 obtain ⟨w3,u3,b3,o3⟩:=mapPut w2 w.heap.size 2 #[{ key := .int .i64 1,val := .func (Fn.func 39) #[] #[],born:=0 },{ key := .int .i64 2,val := .func (Fn.func 40) #[] #[],born:=1 }] 4 (.func (Fn.func 41) #[] #[]) b2 rfl
 have n3:=n2.trans (o3.below (Nat.le_refl _))
 obtain ⟨w4,u4,b4,o4⟩:=mapPut w3 w.heap.size 3 #[{ key := .int .i64 1,val := .func (Fn.func 39) #[] #[],born:=0 },{ key := .int .i64 2,val := .func (Fn.func 40) #[] #[],born:=1 },{ key := .int .i64 4,val := .func (Fn.func 41) #[] #[],born:=2 }] 5 (.func (Fn.func 42) #[] #[]) b3 rfl
 have n4:=n3.trans (o4.below (Nat.le_refl _))
 obtain ⟨w5,u5,b5,o5⟩:=mapPut w4 w.heap.size 4 #[{ key := .int .i64 1,val := .func (Fn.func 39) #[] #[],born:=0 },{ key := .int .i64 2,val := .func (Fn.func 40) #[] #[],born:=1 },{ key := .int .i64 4,val := .func (Fn.func 41) #[] #[],born:=2 },{ key := .int .i64 5,val := .func (Fn.func 42) #[] #[],born:=3 }] 8 (.func (Fn.func 43) #[] #[]) b4 rfl
 have n5:=n4.trans (o5.below (Nat.le_refl _))
 obtain ⟨w6,u6,b6,o6⟩:=mapPut w5 w.heap.size 5 #[{ key := .int .i64 1,val := .func (Fn.func 39) #[] #[],born:=0 },{ key := .int .i64 2,val := .func (Fn.func 40) #[] #[],born:=1 },{ key := .int .i64 4,val := .func (Fn.func 41) #[] #[],born:=2 },{ key := .int .i64 5,val := .func (Fn.func 42) #[] #[],born:=3 },{ key := .int .i64 8,val := .func (Fn.func 43) #[] #[],born:=4 }] 11 (.func (Fn.func 44) #[] #[]) b5 rfl
 have n6:=n5.trans (o6.below (Nat.le_refl _))
 obtain ⟨w7,u7,b7,o7⟩:=mapPut w6 w.heap.size 6 #[{ key := .int .i64 1,val := .func (Fn.func 39) #[] #[],born:=0 },{ key := .int .i64 2,val := .func (Fn.func 40) #[] #[],born:=1 },{ key := .int .i64 4,val := .func (Fn.func 41) #[] #[],born:=2 },{ key := .int .i64 5,val := .func (Fn.func 42) #[] #[],born:=3 },{ key := .int .i64 8,val := .func (Fn.func 43) #[] #[],born:=4 },{ key := .int .i64 11,val := .func (Fn.func 44) #[] #[],born:=5 }] 15 (.func (Fn.func 45) #[] #[]) b6 rfl
 have n7:=n6.trans (o7.below (Nat.le_refl _))
 obtain ⟨w8,u8,b8,o8⟩:=mapPut w7 w.heap.size 7 #[{ key := .int .i64 1,val := .func (Fn.func 39) #[] #[],born:=0 },{ key := .int .i64 2,val := .func (Fn.func 40) #[] #[],born:=1 },{ key := .int .i64 4,val := .func (Fn.func 41) #[] #[],born:=2 },{ key := .int .i64 5,val := .func (Fn.func 42) #[] #[],born:=3 },{ key := .int .i64 8,val := .func (Fn.func 43) #[] #[],born:=4 },{ key := .int .i64 11,val := .func (Fn.func 44) #[] #[],born:=5 },{ key := .int .i64 15,val := .func (Fn.func 45) #[] #[],born:=6 }] 20 (.func (Fn.func 46) #[] #[]) b7 rfl
 have n8:=n7.trans (o8.below (Nat.le_refl _))
 obtain ⟨w9,u9,b9,o9⟩:=mapPut w8 w.heap.size 8 #[{ key := .int .i64 1,val := .func (Fn.func 39) #[] #[],born:=0 },{ key := .int .i64 2,val := .func (Fn.func 40) #[] #[],born:=1 },{ key := .int .i64 4,val := .func (Fn.func 41) #[] #[],born:=2 },{ key := .int .i64 5,val := .func (Fn.func 42) #[] #[],born:=3 },{ key := .int .i64 8,val := .func (Fn.func 43) #[] #[],born:=4 },{ key := .int .i64 11,val := .func (Fn.func 44) #[] #[],born:=5 },{ key := .int .i64 15,val := .func (Fn.func 45) #[] #[],born:=6 },{ key := .int .i64 20,val := .func (Fn.func 46) #[] #[],born:=7 }] 24 (.func (Fn.func 47) #[] #[]) b8 rfl
 have n9:=n8.trans (o9.below (Nat.le_refl _))
 have B9:Hid (w9.heap[w.heap.size]?=some (.map regE 9)):=b9
 have N9:=hide n9
 clear b0 n0 b1 n1 b2 n2 b3 n3 b4 n4 b5 n5 b6 n6 b7 n7 b8 n8 b9 n9 o1 o2 o3 o4 o5 o6 o7 o8 o9
 go_enter Tryz.func23,Tryz.ntmps23
 go_wp2
 go_ret
 exact ⟨rfl,B9.out,N9.out⟩
def regV (k:Int):Value:=if k=1 then .func (Fn.func 39) #[] #[] else if k=2 then .func (Fn.func 40) #[] #[] else if k=4 then .func (Fn.func 41) #[] #[] else if k=5 then .func (Fn.func 42) #[] #[] else if k=8 then .func (Fn.func 43) #[] #[] else if k=11 then .func (Fn.func 44) #[] #[] else if k=15 then .func (Fn.func 45) #[] #[] else if k=20 then .func (Fn.func 46) #[] #[] else if k=24 then .func (Fn.func 47) #[] #[] else .nilFunc
theorem regLook (w:World) (q:Nat) (hb:w.heap[q]?=some (.map regE 9)) (k:Int):(Instr.lookup 54 (.map (some q)) (.int .i64 k) false).run Tryz.prog w = .ok (regV k) w:=by
 have hm:=Tryz.underlying54
 have hk:Tryz.prog.underlying 2=some (.int .i64):=by kernel_rfl
 have hc:(Instr.checkKey regE.isEmpty 10000 2 (.int .i64 k)).run Tryz.prog w = .ok () w:=MapKept.run_checkKey (k := .int .i64 k) hk (by simp [MapKept.IsKey]) regE.isEmpty 9999
 by_cases k0:k=1
 ·subst k0
  have h1:Instr.findNow (.int .i64) (.int .i64 1) regE.toList 0=some (some (0,.func (Fn.func 39) #[] #[])):=rfl
  rw [show regV 1 = .func (Fn.func 39) #[] #[] from rfl]
  simp [Instr.lookup,run_underlying hm,MapKept.run_getObj_map hb,hc,MapKept.run_findKey hk h1,Result.andThen]
 by_cases k1:k=2
 ·subst k1
  have h1:Instr.findNow (.int .i64) (.int .i64 2) regE.toList 0=some (some (1,.func (Fn.func 40) #[] #[])):=rfl
  rw [show regV 2 = .func (Fn.func 40) #[] #[] from rfl]
  simp [Instr.lookup,run_underlying hm,MapKept.run_getObj_map hb,hc,MapKept.run_findKey hk h1,Result.andThen]
 by_cases k2:k=4
 ·subst k2
  have h1:Instr.findNow (.int .i64) (.int .i64 4) regE.toList 0=some (some (2,.func (Fn.func 41) #[] #[])):=rfl
  rw [show regV 4 = .func (Fn.func 41) #[] #[] from rfl]
  simp [Instr.lookup,run_underlying hm,MapKept.run_getObj_map hb,hc,MapKept.run_findKey hk h1,Result.andThen]
 by_cases k3:k=5
 ·subst k3
  have h1:Instr.findNow (.int .i64) (.int .i64 5) regE.toList 0=some (some (3,.func (Fn.func 42) #[] #[])):=rfl
  rw [show regV 5 = .func (Fn.func 42) #[] #[] from rfl]
  simp [Instr.lookup,run_underlying hm,MapKept.run_getObj_map hb,hc,MapKept.run_findKey hk h1,Result.andThen]
 by_cases k4:k=8
 ·subst k4
  have h1:Instr.findNow (.int .i64) (.int .i64 8) regE.toList 0=some (some (4,.func (Fn.func 43) #[] #[])):=rfl
  rw [show regV 8 = .func (Fn.func 43) #[] #[] from rfl]
  simp [Instr.lookup,run_underlying hm,MapKept.run_getObj_map hb,hc,MapKept.run_findKey hk h1,Result.andThen]
 by_cases k5:k=11
 ·subst k5
  have h1:Instr.findNow (.int .i64) (.int .i64 11) regE.toList 0=some (some (5,.func (Fn.func 44) #[] #[])):=rfl
  rw [show regV 11 = .func (Fn.func 44) #[] #[] from rfl]
  simp [Instr.lookup,run_underlying hm,MapKept.run_getObj_map hb,hc,MapKept.run_findKey hk h1,Result.andThen]
 by_cases k6:k=15
 ·subst k6
  have h1:Instr.findNow (.int .i64) (.int .i64 15) regE.toList 0=some (some (6,.func (Fn.func 45) #[] #[])):=rfl
  rw [show regV 15 = .func (Fn.func 45) #[] #[] from rfl]
  simp [Instr.lookup,run_underlying hm,MapKept.run_getObj_map hb,hc,MapKept.run_findKey hk h1,Result.andThen]
 by_cases k7:k=20
 ·subst k7
  have h1:Instr.findNow (.int .i64) (.int .i64 20) regE.toList 0=some (some (7,.func (Fn.func 46) #[] #[])):=rfl
  rw [show regV 20 = .func (Fn.func 46) #[] #[] from rfl]
  simp [Instr.lookup,run_underlying hm,MapKept.run_getObj_map hb,hc,MapKept.run_findKey hk h1,Result.andThen]
 by_cases k8:k=24
 ·subst k8
  have h1:Instr.findNow (.int .i64) (.int .i64 24) regE.toList 0=some (some (8,.func (Fn.func 47) #[] #[])):=rfl
  rw [show regV 24 = .func (Fn.func 47) #[] #[] from rfl]
  simp [Instr.lookup,run_underlying hm,MapKept.run_getObj_map hb,hc,MapKept.run_findKey hk h1,Result.andThen]
 have h1:Instr.findNow (.int .i64) (.int .i64 k) regE.toList 0=some none:=by
  rcases MapKept.findNow_spec (d := .int .i64) (k := .int .i64 k) (by simp [MapKept.IsKey]) regE.toList 0 (by simp [regE,MapKept.IsKey]) with ⟨h,-⟩ | ⟨j,e,-,h2,h3⟩
  ·exact h
  ·exfalso
   have hm:=List.mem_of_getElem? h2
   simp only [regE,List.mem_cons,List.not_mem_nil,or_false] at hm
   rcases hm with rfl | rfl | rfl | rfl | rfl | rfl | rfl | rfl | rfl <;> simp at h3 <;> omega
 have hv:regV k = .nilFunc:=by unfold regV;rw [if_neg k0,if_neg k1,if_neg k2,if_neg k3,if_neg k4,if_neg k5,if_neg k6,if_neg k7,if_neg k8]
 have hz:(zeroValue 65).run Tryz.prog w = .ok .nilFunc w:=by kernel_rfl
 rw [hv]
 simp [Instr.lookup,run_underlying hm,MapKept.run_getObj_map hb,hc,MapKept.run_findKey hk h1,hz,Result.andThen]
end Go.Proofs.YtmmbkkfjiaoeiaaGreat
namespace Go.Proofs.YtmmbkkfjiaoeiaaGreat
open Go.RowKit
theorem str_data:∀ (xs:List Int) (acc:ByteArray),(xs.foldl (fun r n=>r.push (UInt8.ofNat n.toNat)) acc).data=acc.data ++ (xs.map (fun n=>UInt8.ofNat n.toNat)).toArray
  | [],acc=>by simp
  | x :: r, acc => by
    rw [List.foldl_cons,str_data r]
    simp [ByteArray.push]
theorem toList_inj {s t:ByteArray} (h:s.toList=t.toList):s=t:=by
 rw [ByteArray.toList_eq,ByteArray.toList_eq] at h
 have:=Array.ext' h
 cases s;cases t;simp_all
theorem str_inj {xs ys:List Int} (hx:Byt xs) (hy:Byt ys) (h:str xs=str ys):xs=ys:=by
 have h1:(xs.map (fun n=>UInt8.ofNat n.toNat))=(ys.map (fun n=>UInt8.ofNat n.toNat)):=by
  have:=congrArg ByteArray.data h
  unfold str at this
  rw [str_data,str_data] at this
  simpa using this
 have hl:xs.length=ys.length:=by have:=congrArg List.length h1;simpa using this
 refine eq_of_getD hl (fun i hi=>?_)
 have h2:(xs.map (fun n=>UInt8.ofNat n.toNat))[i]?=(ys.map (fun n=>UInt8.ofNat n.toNat))[i]?:=by rw [h1]
 have a:=hx i
 have b:=hy i
 have hi':i < ys.length:=by omega
 simp [hi,hi'] at h2 a b ⊢
 have h3:=congrArg UInt8.toNat h2
 simp at h3
 omega
set_option maxHeartbeats 400000 in
theorem l1Same_same (w:World) (g g':Nat) (a b:Option Addr) (ca cb:Nat) (xs:List Int) (ha:Rd w g a .u8 xs) (hb:Rd w g' b .u8 xs) :
  Calls Tryz.prog 31 #[.slice a xs.length ca,.slice b xs.length cb] w fun e w'=>e = .returned (.bool true)∧w'=w:=by
 have h1:=conv_run w g a ca xs ha
 have h2:=conv_run w g' b cb xs hb
 generalize str xs=s at *
 go_enter Tryz.func31,Tryz.ntmps31
 go_wp2
 go_ret
 exact ⟨by simp,rfl⟩
set_option maxHeartbeats 1000000 in
theorem l1Same_diff (w:World) (g g':Nat) (a b:Option Addr) (ca cb:Nat) (xs ys:List Int) (ha:Rd w g a .u8 xs) (hb:Rd w g' b .u8 ys) (hx:Byt xs) (hy:Byt ys) (hne:xs≠ys) :
  Calls Tryz.prog 31 #[.slice a xs.length ca,.slice b ys.length cb] w fun e w'=>e = .returned (.bool false)∧w'=w:=by
 have h1:=conv_run w g a ca xs ha
 have h2:=conv_run w g' b cb ys hb
 have h3:str xs≠str ys:=fun h=>hne (str_inj hx hy h)
 clear hne
 generalize str xs=s at *
 generalize str ys=t at *
 have H3:=hide h3
 clear h3
 go_enter Tryz.func31,Tryz.ntmps31
 go_wp2
 go_ret
 have e:(s.toList == t.toList)=false:=by
  cases h:(s.toList == t.toList)
  ·rfl
  ·exact absurd (toList_inj (beq_iff_eq.1 h)) H3.out
 exact ⟨by rw [← e];rfl,rfl⟩
theorem l1Same_any (w:World) (g g':Nat) (a b:Option Addr) (ca cb:Nat) (xs ys:List Int) (ha:Rd w g a .u8 xs) (hb:Rd w g' b .u8 ys) (hx:Byt xs) (hy:Byt ys) :
  Calls Tryz.prog 31 #[.slice a xs.length ca,.slice b ys.length cb] w fun e w'=>e = .returned (.bool (decide (xs=ys)))∧w'=w:=by
 by_cases h:xs=ys
 ·subst h
  simpa using l1Same_same w g g' a b ca cb xs ha hb
 ·have := l1Same_diff w g g' a b ca cb xs ys ha hb hx hy h
  simpa [h] using this
end Go.Proofs.YtmmbkkfjiaoeiaaGreat
namespace Go.Proofs.YtmmbkkfjiaoeiaaGreat
open Go Go.RowKit
set_option maxRecDepth 100000 in
theorem bytesEqual_any (w:World) (g g':Nat) (a b:Option Addr) (ca cb:Nat) (xs ys:List Int) (ha:Rd w g a .u8 xs) (hb:Rd w g' b .u8 ys) (hx:Byt xs) (hy:Byt ys) :
  Calls Tryz.prog 61 #[.slice a xs.length ca,.slice b ys.length cb] w fun e w'=>e = .returned (.bool (decide (xs=ys)))∧w'=w:=by
 have h1:=conv_run w g a ca xs ha
 have h2:=conv_run w g' b cb ys hb
 by_cases e:xs=ys
 ·subst e
  generalize str xs=s at *
  go_enter Tryz.func61,Tryz.ntmps61
  go_wp2
  go_ret
  exact ⟨by simp,rfl⟩
 ·have D := hide (show decide (xs = ys) = false by simpa using e)
  have h3:str xs≠str ys:=fun h=>e (str_inj hx hy h)
  generalize str xs=s at *
  generalize str ys=t at *
  have H3:=hide h3
  clear h3 e
  go_enter Tryz.func61,Tryz.ntmps61
  go_wp2
  go_ret
  have e:(s.toList == t.toList)=false:=by
   cases h:(s.toList == t.toList)
   ·rfl
   ·exact absurd (toList_inj (beq_iff_eq.1 h)) H3.out
  exact ⟨by rw [D.out,← e];rfl,rfl⟩
end Go.Proofs.YtmmbkkfjiaoeiaaGreat
namespace Go.Proofs.YtmmbkkfjiaoeiaaGreat
open Go Go.RowKit
set_option maxHeartbeats 1000000 in
theorem equalTexts_any (w : World) (g g' : Nat) (a b : Option Addr) (ca cb : Nat) (ls ms : List (List UInt8)) (ha : RdT w g a ls) (hb : RdT w g' b ms) (hn : ls.length ≤ 1048576) (_hm : ms.length ≤ 1048576) :
  Calls Tryz.prog 62 #[.slice a ls.length ca,.slice b ms.length cb] w fun e w'=>e = .returned (.bool (decide (ls=ms)))∧Below w.heap.size w w':=by
 by_cases hl:ls.length=ms.length
 ·have d0 : ((ls.length : Int) != (ms.length : Int)) = false := by simp [hl]
  have E:=hide (show ∀ k,k < ls.length→ls.getD k []≠ms.getD k []→decide (ls=ms)=false from fun k _ hne=>decide_eq_false fun h=>hne (by rw [h]))
  have HL:=hide hl
  rw [← hl]
  have HB:Hid (0 < ls.length→∃ off,b=some ⟨g',off,none⟩∧∀ i,i < ls.length→w.cell? ⟨g',off+i,none⟩=some (tx (ms.getD i []))):=fun h=>by
   obtain ⟨o,e,hc⟩:=hb (by omega)
   exact ⟨o,e,fun i hi=>hc i (by omega)⟩
  clear hl hb
  go_enter Tryz.func62,Tryz.ntmps62
  go_wp2
  go_loopw [13] (fun i wr=>∃ (k n:Nat),k≤ls.length∧i = .int .i64 k∧wr=w.drewN n∧∀ j,j < k→ls.getD j []=ms.getD j []) (fun i _=>ls.length - (intOf i).toNat)
  case atStart=>exact ⟨0,0,Nat.zero_le _,rfl,rfl,fun j hj=>absurd hj (by omega)⟩
  case round =>
   obtain ⟨k,n,hk,rfl,rfl,hall⟩:=hrel
   by_cases hlt:k < ls.length
   ·obtain ⟨off, rfl, hc⟩ := ha (by omega)
    obtain ⟨off',rfl,hc'⟩:=HB.out (by omega)
    have h1:=hc k hlt
    have h2:=hc' k hlt
    have hlt':(k:Int) < (ls.length:Int):=by omega
    have EK:=hide (E.out k hlt)
    have HALL:=hide hall
    clear hc hc' E hall HB
    generalize hx:ls.getD k []=x at *
    generalize hy:ms.getD k []=y at *
    have HX:=hide hx
    have HY:=hide hy
    clear hx hy
    unfold tx at h1 h2
    by_cases hxy:x=y
    ·subst hxy
     have e1:(x != x)=false:=by simp
     have e2:(x == x)=true:=by simp
     have NXT:Hid (∀ j,j < k+1→ls.getD j []=ms.getD j []):=fun j hj=>by
      by_cases h:j=k
      ·subst h
       rw [HX.out,HY.out]
      ·exact HALL.out j (by omega)
     clear HALL EK
     go_wp2
     go_region
     go_wp2
     go_roundw
     case rel=>exact ⟨k+1,_,by omega,by go_num,rfl,NXT.out⟩
     case measure=>simp [intOf];omega
    ·have e1 : (x != y) = true := by simpa using hxy
     have e2:(x == y)=false:=by simpa using hxy
     have F:=hide (EK.out hxy)
     clear HALL EK
     go_wp2
     go_region
     go_wp2
     go_ret
     exact ⟨by rw [F.out];rfl,below_drewN (Below.refl _ _) _⟩
   ·obtain rfl : k = ls.length := by omega
    have T:Hid (decide (ls=ms)=true):=decide_eq_true (List.ext_getElem HL.out fun i h1 h2=>by
     have:=hall i h1
     rw [List.getD_eq_getElem?_getD,List.getD_eq_getElem?_getD,List.getElem?_eq_getElem h1,List.getElem?_eq_getElem h2] at this
     exact this)
    clear hall E HB ha
    go_wp2
    go_ret
    exact ⟨by rw [T.out];rfl,below_drewN (Below.refl _ _) _⟩
 ·have d0 : ((ls.length : Int) != (ms.length : Int)) = true := by simp; omega
  have D:=hide (show decide (ls=ms)=false from decide_eq_false fun h=>hl (by rw [h]))
  clear ha hb hl
  go_enter Tryz.func62,Tryz.ntmps62
  go_wp2
  go_ret
  exact ⟨by rw [D.out];rfl,Below.refl _ _⟩
end Go.Proofs.YtmmbkkfjiaoeiaaGreat
namespace Go.Proofs.YtmmbkkfjiaoeiaaGreat
open Go Go.RowKit
structure Plb where
 a:Option Addr
 c:Nat
 q:Nat
def plb0:Plb:=⟨none,0,0⟩
structure RdL (w:World) (g:Nat) (a:Option Addr) (bs:List (List Int)) (ps:List Plb):Prop where
 r:0 < bs.length→∃ off,a=some ⟨g,off,none⟩∧∀ i,i < bs.length→w.cell? ⟨g,off+i,none⟩=some (.slice (ps.getD i plb0).a (bs.getD i []).length (ps.getD i plb0).c)
 b:∀ i,i < bs.length→Rd w (ps.getD i plb0).q (ps.getD i plb0).a .u8 (bs.getD i [])
theorem RdL.up {w w':World} {g:Nat} {a:Option Addr} {bs:List (List Int)} {ps:List Plb} (h:RdL w g a bs ps) (n:Below w.heap.size w w'):RdL w' g a bs ps :=
 ⟨fun h0=>by
  obtain ⟨o,e,hc⟩:=h.r h0
  refine ⟨o,e,fun i hi=>?_⟩
  have:=hc i hi
  rw [World.cell?_of_block (a:=⟨g,o+i,none⟩) (n.block g (block_lt_of_cell this))]
  exact this,fun i hi=>(h.b i hi).up n⟩
theorem blobEq_any (w:World) (g g':Nat) (a b:Option Addr) (ca cb:Nat) (xs ys:List Int) (ha:Rd w g a .u8 xs) (hb:Rd w g' b .u8 ys) (hx:Byt xs) (hy:Byt ys) :
  Calls Tryz.prog 60 #[.agg #[.slice a xs.length ca],.agg #[.slice b ys.length cb]] w fun e w'=>e = .returned (.bool (decide (xs=ys)))∧Below w.heap.size w w':=by
 have n1:Below w.heap.size w (w.alloc (.cells #[.slice a xs.length ca] 52)):=(Below.refl _ _).alloc (Nat.le_refl _) _
 have n2:Below w.heap.size w ((w.alloc (.cells #[.slice a xs.length ca] 52)).alloc (.cells #[.slice b ys.length cb] 52)):=n1.alloc n1.size _
 have BE:=hide (bytesEqual_any _ g g' a b ca cb xs ys (ha.up n2) (hb.up n2) hx hy)
 have N2:=hide n2
 clear ha hb hx hy n1 n2
 generalize decide (xs=ys)=d at *
 go_enter Tryz.func60,Tryz.ntmps60
 go_wp2_with fail
 refine BE.out.mono ?_
 rintro e w1 ⟨rfl,rfl⟩
 go_wp2
 go_ret
 exact ⟨rfl,N2.out⟩
def ctO (n:Nat):Bool:=decide (n=0) || decide (2000 < n)
theorem certOut_any (w:World) (a:Option Addr) (c n:Nat) (hn:n≤1048576) :
  Calls Tryz.prog 133 #[.agg #[.slice a n c]] w fun e w'=>e = .returned (.bool (ctO n))∧Below w.heap.size w w':=by
 have n1:Hid (Below w.heap.size w (w.alloc (.cells #[.slice a n c] 52))):=(Below.refl _ _).alloc (Nat.le_refl _) _
 have E:=hide (show ctO n=(decide (n=0) || decide (2000 < n)) from rfl)
 generalize ctO n=f at *
 by_cases k0:n=0
 ·subst k0
  obtain rfl:f=true:=E.out
  go_enter Tryz.func133,Tryz.ntmps133
  go_wp2
  go_ret
  exact ⟨rfl,n1.out⟩
 ·have e0 : ((n : Int) == 0) = false := by simp; omega
  by_cases k1:2000 < n
  ·have EF : f = true := by rw [E.out]; simp [k1]
   subst EF
   have d1:decide ((2000:Int) < (n:Int))=true:=by simp;omega
   go_enter Tryz.func133,Tryz.ntmps133
   go_wp2
   go_ret
   exact ⟨rfl,n1.out⟩
  ·have EF : f = false := by rw [E.out]; simp [k0, k1]
   subst EF
   have d1:decide ((2000:Int) < (n:Int))=false:=by simp;omega
   go_enter Tryz.func133,Tryz.ntmps133
   go_wp2
   go_ret
   exact ⟨rfl,n1.out⟩
end Go.Proofs.YtmmbkkfjiaoeiaaGreat
namespace Go.Proofs.YtmmbkkfjiaoeiaaGreat
open Go Go.RowKit
def ctA (bs:List (List Int)):Bool:=bs.any fun b=>ctO b.length
theorem ctA_yes {bs:List (List Int)} {k:Nat} (hk:k < bs.length) (h:ctO (bs.getD k []).length=true):ctA bs=true:=by
 unfold ctA
 rw [List.any_eq_true]
 refine ⟨bs.getD k [],?_,h⟩
 rw [List.getD_eq_getElem?_getD,List.getElem?_eq_getElem hk]
 exact List.getElem_mem hk
theorem ctA_no {bs:List (List Int)} (h:∀ j,j < bs.length→ctO (bs.getD j []).length=false):ctA bs=false:=by
 unfold ctA
 rw [List.any_eq_false]
 intro b hb
 obtain ⟨i,hi,e⟩:=List.getElem_of_mem hb
 have:=h i hi
 rw [List.getD_eq_getElem?_getD,List.getElem?_eq_getElem hi] at this
 simpa [← e] using this
set_option maxHeartbeats 1000000 in
theorem certIndex_any (w : World) (g : Nat) (a : Option Addr) (c : Nat) (bs : List (List Int)) (ps : List Plb) (hr : RdL w g a bs ps) (hn : bs.length ≤ 1048576) (hz : ∀ i, i < bs.length → (bs.getD i []).length ≤ 1048576) :
    Calls Tryz.prog 135 #[.slice a bs.length c,.func (Fn.func 133) #[] #[]] w fun e w'=>∃ r:Int,e = .returned (.int .i64 r)∧decide (0≤r)=ctA bs∧Below w.heap.size w w':=by
  go_enter Tryz.func135,Tryz.ntmps135
  go_wp2
  go_loopw [8] (fun i wr=>∃ (k:Nat),k≤bs.length∧i = .int .i64 k∧Below w.heap.size w wr∧∀ j,j < k→ctO (bs.getD j []).length=false) (fun i _=>bs.length - (intOf i).toNat)
  case atStart=>exact ⟨0,Nat.zero_le _,rfl,Below.refl _ _,fun j hj=>absurd hj (by omega)⟩
  case round =>
    obtain ⟨k,hk,rfl,N,hall⟩:=hrel
    by_cases hlt:k < bs.length
    · obtain ⟨off, rfl, hc⟩ := (hr.up N).r (by omega)
      have t0:(k:Int) < (bs.length:Int):=by omega
      have c1:=hc k hlt
      have CO:=hide (certOut_any wr (ps.getD k plb0).a (ps.getD k plb0).c (bs.getD k []).length (hz k hlt))
      have YES:=hide (fun h=>ctA_yes hlt h)
      have HALL:=hide hall
      have HN:=hide N
      clear hc hall N
      generalize (ps.getD k plb0).a=pa at *
      generalize (ps.getD k plb0).c=pc at *
      generalize hx:(bs.getD k []).length=x at *
      have HX:=hide hx
      clear hx
      generalize hv:ctO x=v at *
      have HV:=hide hv
      clear hv
      go_wp2_with fail
      refine CO.out.mono ?_
      rintro e w1 ⟨rfl,n1⟩
      have N1:=hide (nxt HN.out n1)
      clear CO n1 HN
      cases v with
      | true =>
        have Y:=hide (YES.out (by first | rfl | exact HV.out))
        clear YES HALL
        go_wp2
        go_ret
        exact ⟨_,rfl,by rw [Y.out];simp,N1.out⟩
      | false =>
        have NXT:Hid (∀ j,j < k+1→ctO (bs.getD j []).length=false):=fun j hj=>by
          by_cases h:j=k
          · subst h
            rw [HX.out]
            exact HV.out
          · exact HALL.out j (by omega)
        clear YES HALL
        go_wp2
        go_roundw
        case rel=>exact ⟨k+1,by omega,by go_num,N1.out,NXT.out⟩
        case measure=>simp [intOf];omega
    · obtain rfl : k = bs.length := by omega
      have NO:=hide (ctA_no hall)
      have HN:=hide N
      clear hall hr N
      go_wp2
      go_ret
      exact ⟨-1,rfl,by rw [NO.out];rfl,HN.out⟩
theorem certContains_any (w:World) (g:Nat) (a:Option Addr) (c:Nat) (bs:List (List Int)) (ps:List Plb) (hr:RdL w g a bs ps) (hn:bs.length≤1048576) (hz:∀ i,i < bs.length→(bs.getD i []).length≤1048576) :
  Calls Tryz.prog 134 #[.slice a bs.length c,.func (Fn.func 133) #[] #[]] w fun e w'=>e = .returned (.bool (ctA bs))∧Below w.heap.size w w':=by
 have IX:=hide (certIndex_any w g a c bs ps hr hn hz)
 clear hr hz
 generalize ctA bs=v at *
 go_enter Tryz.func134,Tryz.ntmps134
 go_wp2_with fail
 refine IX.out.mono ?_
 rintro e w1 ⟨r,rfl,hr,n1⟩
 have HR:=hide hr
 have N1:=hide n1
 clear hr n1 IX
 go_wp2
 go_ret
 exact ⟨by rw [← HR.out];rfl,N1.out⟩
def ceF (bs:List (List Int)):Int:=if bs.length=0 then 8 else if 4 < bs.length then 8 else if ctA bs=true then 8 else 0
set_option maxHeartbeats 1000000 in
theorem certsFault_any (w : World) (q g : Nat) (a : Option Addr) (c : Nat) (bs : List (List Int)) (ps : List Plb) (hr : RdL w g a bs ps) (hn : bs.length ≤ 1048576) (hz : ∀ i, i < bs.length → (bs.getD i []).length ≤ 1048576) (h0 : w.cell? ⟨q, 0, none⟩ = some (.slice a bs.length c)) :
    Calls Tryz.prog 130 #[.pointer (some ⟨q,0,none⟩)] w fun x w'=>x = .returned (.int .i64 (ceF bs))∧Below w.heap.size w w':=by
  have E:=hide (show ceF bs=if bs.length=0 then 8 else if 4 < bs.length then 8 else if ctA bs=true then 8 else 0 from rfl)
  have CC:=hide (certContains_any w g a c bs ps hr hn hz)
  clear hr hz
  generalize ceF bs=f at *
  generalize ctA bs=v at *
  by_cases k0:bs.length=0
  · have EF : f = 8 := by rw [E.out, if_pos k0]
    subst EF
    have e0:((bs.length:Int) == 0)=true:=by simp [k0]
    clear E CC k0
    go_enter Tryz.func130,Tryz.ntmps130
    go_wp2
    go_ret
    exact ⟨rfl,Below.refl _ _⟩
  · have e0 : ((bs.length : Int) == 0) = false := by rw [beq_eq_false_iff_ne]; omega
    by_cases k1:4 < bs.length
    · have EF : f = 8 := by rw [E.out, if_neg k0, if_pos k1]
      subst EF
      have d1:decide ((4:Int) < (bs.length:Int))=true:=by simp;omega
      clear E CC
      go_enter Tryz.func130,Tryz.ntmps130
      go_wp2
      go_ret
      exact ⟨rfl,Below.refl _ _⟩
    · have EF := hide (show f = if v = true then 8 else 0 by rw [E.out, if_neg k0, if_neg k1])
      have d1:decide ((4:Int) < (bs.length:Int))=false:=by simp;omega
      clear E
      go_enter Tryz.func130,Tryz.ntmps130
      go_wp2_with fail
      refine CC.out.mono ?_
      rintro e w1 ⟨rfl,n1⟩
      cases v with
      | false =>
        go_wp2
        go_ret
        exact ⟨by rw [EF.out];rfl,n1⟩
      | true =>
        go_wp2
        go_ret
        exact ⟨by rw [EF.out];rfl,n1⟩
end Go.Proofs.YtmmbkkfjiaoeiaaGreat
namespace Go.Proofs.YtmmbkkfjiaoeiaaGreat
open Go Go.RowKit
set_option maxHeartbeats 1000000 in
theorem certEqual_any (w : World) (g g' : Nat) (a b : Option Addr) (ca cb : Nat) (xs ys : List (List Int)) (ps qs : List Plb) (ha : RdL w g a xs ps) (hb : RdL w g' b ys qs) (hn : xs.length ≤ 1048576) (_hm : ys.length ≤ 1048576) (hx : ∀ i, i < xs.length → Byt (xs.getD i [])) (hy : ∀ i, i < ys.length → Byt (ys.getD i [])) :
    Calls Tryz.prog 63 #[.slice a xs.length ca,.slice b ys.length cb,.func (Fn.func 60) #[] #[]] w fun e w'=>e = .returned (.bool (decide (xs=ys)))∧Below w.heap.size w w':=by
  by_cases hl:xs.length=ys.length
  · have d0 : ((xs.length : Int) != (ys.length : Int)) = false := by simp [hl]
    have E:=hide (show ∀ k,xs.getD k []≠ys.getD k []→decide (xs=ys)=false from fun k hne=>decide_eq_false fun h=>hne (by rw [h]))
    have T:=hide (show (∀ j,j < xs.length→xs.getD j []=ys.getD j [])→decide (xs=ys)=true from fun hall=>decide_eq_true (List.ext_getElem hl fun i h1 h2=>by
      have:=hall i h1
      rw [List.getD_eq_getElem?_getD,List.getD_eq_getElem?_getD,List.getElem?_eq_getElem h1,List.getElem?_eq_getElem h2] at this
      exact this))
    have HY:=hide (show ∀ i,i < xs.length→Byt (ys.getD i []) from fun i hi=>hy i (by omega))
    have HB1:=hide (show ∀ W,Below w.heap.size w W→0 < xs.length→∃ off,b=some ⟨g',off,none⟩∧∀ i,i < xs.length→W.cell? ⟨g',off+i,none⟩=some (.slice (qs.getD i plb0).a (ys.getD i []).length (qs.getD i plb0).c) from fun W n h=>by
      obtain ⟨o,e,hc⟩:=(hb.up n).r (by omega)
      exact ⟨o,e,fun i hi=>hc i (by omega)⟩)
    have HB2:=hide (show ∀ W,Below w.heap.size w W→∀ i,i < xs.length→Rd W (qs.getD i plb0).q (qs.getD i plb0).a .u8 (ys.getD i []) from fun W n i hi=>(hb.up n).b i (by omega))
    have HX:=hide hx
    have HA:=hide ha
    rw [← hl]
    generalize decide (xs=ys)=d at *
    clear hl hb ha hx hy
    go_enter Tryz.func63,Tryz.ntmps63
    go_wp2
    go_loopw [17] (fun i wr=>∃ (k:Nat),k≤xs.length∧i = .int .i64 k∧Below w.heap.size w wr∧∀ j,j < k→xs.getD j []=ys.getD j []) (fun i _=>xs.length - (intOf i).toNat)
    case atStart=>exact ⟨0,Nat.zero_le _,rfl,Below.refl _ _,fun j hj=>absurd hj (by omega)⟩
    case round =>
      obtain ⟨k,hk,rfl,N,hall⟩:=hrel
      by_cases hlt:k < xs.length
      · obtain ⟨off, rfl, hc⟩ := (HA.out.up N).r (by omega)
        obtain ⟨off',rfl,hc'⟩:=HB1.out wr N (by omega)
        have t0:(k:Int) < (xs.length:Int):=by omega
        have c1:=hc k hlt
        have c2:=hc' k hlt
        have l1:=block_lt_of_cell c1
        have l2:=block_lt_of_cell c2
        have z1:g≠wr.heap.size:=by simp only at l1;omega
        have z2:g'≠wr.heap.size:=by simp only at l2;omega
        have z3:wr.heap.size≠g:=fun h=>z1 h.symm
        have z4:wr.heap.size≠g':=fun h=>z2 h.symm
        have l3:∀ o,(wr.alloc o).cell? ⟨g',off'+k,none⟩=some (.slice (qs.getD k plb0).a (ys.getD k []).length (qs.getD k plb0).c):=fun o=>(World.cell?_of_block (a:=⟨g',off'+k,none⟩) (Below.heap_alloc wr o g' (by simpa using l2))).trans c2
        have BE:=hide (show ∀ W,Below wr.heap.size wr W→_ from fun W n=>blobEq_any W (ps.getD k plb0).q (qs.getD k plb0).q (ps.getD k plb0).a (qs.getD k plb0).a (ps.getD k plb0).c (qs.getD k plb0).c (xs.getD k []) (ys.getD k []) (((HA.out.up N).b k hlt).up n) ((HB2.out wr N k hlt).up n) (HX.out k hlt) (HY.out k hlt))
        have EK:=hide (E.out k)
        have HALL:=hide hall
        have HN:=hide N
        have DY:Hid (decide (xs.getD k []=ys.getD k [])=true→xs.getD k []=ys.getD k []):=fun h=>of_decide_eq_true h
        have DN:Hid (decide (xs.getD k []=ys.getD k [])=false→xs.getD k []≠ys.getD k []):=fun h=>of_decide_eq_false h
        clear hc hc' E hall HB1 HB2 HA HX HY N
        generalize (ps.getD k plb0).a=pa at *
        generalize (ps.getD k plb0).c=pc at *
        generalize (qs.getD k plb0).a=qa at *
        generalize (qs.getD k plb0).c=qc at *
        generalize hx:xs.getD k []=x at *
        generalize hy:ys.getD k []=y at *
        have GX:=hide hx
        have GY:=hide hy
        clear hx hy
        generalize decide (x=y)=v at *
        generalize hxl:x.length=xl at *
        generalize hyl:y.length=yl at *
        clear hxl hyl
        go_wp2_with fail
        refine (BE.out _ ?_).mono ?_
        · exact ((Below.refl _ _).alloc (Nat.le_refl _) _).alloc (by simp) _
        rintro e w1 ⟨rfl,n1⟩
        have N1:=hide (nxt HN.out ((((Below.refl _ _).alloc (Nat.le_refl _) _).alloc (by simp) _).trans (n1.mono (by simp <;> omega))))
        clear BE n1 HN
        cases v with
        | true =>
          have XY:=DY.out rfl
          have NXT:Hid (∀ j,j < k+1→xs.getD j []=ys.getD j []):=fun j hj=>by
            by_cases h:j=k
            · subst h
              rw [GX.out,GY.out,XY]
            · exact HALL.out j (by omega)
          clear XY HALL EK DY DN
          go_wp2
          go_roundw
          case rel=>exact ⟨k+1,by omega,by go_num,N1.out,NXT.out⟩
          case measure=>simp [intOf];omega
        | false =>
          have F:=hide (EK.out (DN.out rfl))
          clear HALL EK DY DN
          go_wp2
          go_ret
          exact ⟨by rw [F.out];rfl,N1.out⟩
      · obtain rfl : k = xs.length := by omega
        have F:=hide (T.out hall)
        have HN:=hide N
        clear hall E HB1 HB2 HA N
        go_wp2
        go_ret
        exact ⟨by rw [F.out];rfl,HN.out⟩
  · have d0 : ((xs.length : Int) != (ys.length : Int)) = true := by simp; omega
    have F:Hid (decide (xs=ys)=false):=decide_eq_false fun h=>hl (by rw [h])
    go_enter Tryz.func63,Tryz.ntmps63
    go_wp2
    go_ret
    exact ⟨by rw [F.out];rfl,Below.refl _ _⟩
end Go.Proofs.YtmmbkkfjiaoeiaaGreat
