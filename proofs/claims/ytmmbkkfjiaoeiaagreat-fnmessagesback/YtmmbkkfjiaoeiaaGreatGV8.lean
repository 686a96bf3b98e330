import Derived.Test.YtmmbkkfjiaoeiaaGreatGV7
import Derived.Deep.Cut
namespace Go.Proofs.YtmmbkkfjiaoeiaaGreat
open Go Go.RowKit
def RBf (b:Nat) (xs:List Int):Fact:=⟨fun v w=>RowB w b v xs,fun n h=>h.up n⟩
def B3f (xs : List Int) (l1 l2 : Lst) : Fact :=
 ⟨fun v w=>∃ (b g:Nat) (a:Option Addr) (c:Nat),v = .slice (some ⟨b,0,none⟩) 3 3∧Lsts w b [⟨g,a,c,xs⟩,l1,l2]∧Rd w g a .u8 xs∧(a=none→c=0),fun n h=>by
  obtain ⟨b,g,a,c,e,l,r,z⟩:=h
  exact ⟨b,g,a,c,e,l.up n,r.up n,z⟩⟩
theorem bs3_run (w:World) (a1 a2 a3:Option Addr) (n1 n2 n3 c1 c2 c3:Nat):(Instr.buildSlice 148 3 #[(0,.slice a1 n1 c1),(1,.slice a2 n2 c2),(2,.slice a3 n3 c3)]).run Tryz.prog w = .ok (.slice (some ⟨w.heap.size,0,none⟩) 3 3) (w.alloc (.cells #[.slice a1 n1 c1,.slice a2 n2 c2,.slice a3 n3 c3] 22)):=by
 kernel_rfl
theorem lsts_three (w:World) (t:TypeId) (a b c:Lst):Lsts (w.alloc (.cells #[.slice a.a a.xs.length a.c,.slice b.a b.xs.length b.c,.slice c.a c.xs.length c.c] t)) w.heap.size [a,b,c]:=by
 intro j x hj
 match j,hj with
 | 0,hj=>simp at hj;subst hj;simp [World.cell?_alloc_at]
 | 1,hj=>simp at hj;subst hj;simp [World.cell?_alloc_at]
 | 2,hj=>simp at hj;subst hj;simp [World.cell?_alloc_at]
theorem step_bs3 {ops:Array Oper} {Q:Exit→Act→World→Prop} {md:Region.Mode} {F:Nat→Fact} {a0:Act} {w0:World} {i:Nat} {o:Oper} {B:Nat} {xs:List Int} {l1 l2:Lst} (hi:ops[i]?=some o) (p q s j k m:Nat) (hop:o.op = .buildSlice 148 3 #[(0,.tmp p),(1,.tmp q),(2,.tmp s)])
  (hj:waits md ops i j p=true) (hk:waits md ops i k q=true) (hm:waits md ops i m s=true) (hFj:F j=RBf B xs) (hFk:F k=Fact.eq (.slice l1.a l1.xs.length l1.c)) (hFm:F m=Fact.eq (.slice l2.a l2.xs.length l2.c)) (hFi:F i=B3f xs l1 l2):StepOk Tryz.prog md ops Q F a0 w0 i:=by
 refine step_grow hi fun a w _ _ hf=>?_
 have h1:=hf j p hj
 have h2:=hf k q hk
 have h3:=hf m s hm
 rw [hFj] at h1
 rw [hFk] at h2
 rw [hFm] at h3
 obtain ⟨a1,c1,g1,e1,r1,z1,_,_⟩:=RowB.rd h1
 have x1:a.eval (.tmp p) = .slice a1 xs.length c1:=e1
 have x2:a.eval (.tmp q) = .slice l1.a l1.xs.length l1.c:=h2
 have x3:a.eval (.tmp s) = .slice l2.a l2.xs.length l2.c:=h3
 have gg:(#[(0,Operand.tmp p),(1,Operand.tmp q),(2,Operand.tmp s)].map fun (n,x)=>(n,a.eval x)) = #[(0,Value.slice a1 xs.length c1),(1,.slice l1.a l1.xs.length l1.c),(2,.slice l2.a l2.xs.length l2.c)]:=by simp [x1,x2,x3]
 have n9:Below w.heap.size w (w.alloc (.cells #[.slice a1 xs.length c1,.slice l1.a l1.xs.length l1.c,.slice l2.a l2.xs.length l2.c] 22)):=(Below.refl _ _).alloc (Nat.le_refl _) _
 refine ⟨.slice (some ⟨w.heap.size,0,none⟩) 3 3,_,?_,n9,?_⟩
 ·simp only [execOp, hop, gg]
  rw [Sem.run_bind,bs3_run]
  rfl
 ·rw [hFi]
  exact ⟨w.heap.size,g1,a1,c1,rfl,lsts_three w 22 ⟨g1,a1,c1,xs⟩ l1 l2,r1.up n9,z1⟩
theorem cat3 (a b c:Lst):cat [a,b,c]=a.xs ++ (b.xs ++ c.xs):=by simp [cat]
def fpL (v:Int) (r s:List Int):List Int:=bigL v 1 ++ (r ++ s)
theorem fpL_len (v:Int) (r s:List Int):(fpL v r s).length=r.length+s.length+1:=by simp [fpL,bigL_len];omega
set_option maxHeartbeats 4000000 in
theorem firstBody_any (w : World) (q : Nat) (v : Int) (l1 l2 : Lst) (h0 : w.cell? ⟨q, 0, none⟩ = some (.int .i64 v)) (h1 : w.cell? ⟨q, 1, none⟩ = some (.slice l1.a l1.xs.length l1.c)) (h2 : w.cell? ⟨q, 2, none⟩ = some (.slice l2.a l2.xs.length l2.c))
  (r1:Rd w l1.g l1.a .u8 l1.xs) (r2:Rd w l2.g l2.a .u8 l2.xs) (z1:l1.a=none→l1.c=0) (z2:l2.a=none→l2.c=0) (m1:l1.xs.length≤1048576) (m2:l2.xs.length≤1048576) :
  Calls Tryz.prog 92 #[.pointer (some ⟨q,0,none⟩)] w fun e w'=>(∃ x,e = .returned x∧RowB w' w.heap.size x (fpL v l1.xs l2.xs))∧Below w.heap.size w w':=by
 have ql:=block_lt_of_cell h0
 have cu:∀ {W:World},Below w.heap.size w W→∀ i,W.cell? ⟨q,i,none⟩=w.cell? ⟨q,i,none⟩:=fun n i=>World.cell?_of_block (a:=⟨q,i,none⟩) (n.block q ql)
 go_enter Tryz.func92,Tryz.ntmps92
 go_upto_region 1 with fail
 refine region_end 16 (fun i=>[Fact.eq (.pointer (some ⟨q,0,none⟩)),Fact.eq (.pointer (some ⟨q,0,none⟩)),Fact.eq (.pointer (some ⟨q,0,none⟩)),Fact.eq (.int .i64 v),RBf w.heap.size (bigL v 1),Fact.eq (.pointer (some ⟨q,0,none⟩)),Fact.eq (.pointer (some ⟨q,0,none⟩)),Fact.eq (.pointer (some ⟨q,1,none⟩)),Fact.eq (.slice l1.a l1.xs.length l1.c),Fact.eq (.pointer (some ⟨q,0,none⟩)),Fact.eq (.pointer (some ⟨q,0,none⟩)),Fact.eq (.pointer (some ⟨q,2,none⟩)),Fact.eq (.slice l2.a l2.xs.length l2.c),B3f (bigL v 1) l1 l2,RBf w.heap.size (fpL v l1.xs l2.xs),RBf w.heap.size (fpL v l1.xs l2.xs)].getD i Fact.no) (by kernel_rfl) (by kernel_rfl) rfl ?_ ?_
 ·intro i hi
  obtain rfl | rfl | rfl | rfl | rfl | rfl | rfl | rfl | rfl | rfl | rfl | rfl | rfl | rfl | rfl | rfl:i=0∨i=1∨i=2∨i=3∨i=4∨i=5∨i=6∨i=7∨i=8∨i=9∨i=10∨i=11∨i=12∨i=13∨i=14∨i=15:=by omega
  ·refine step_pure rfl fun A ww hb hw hf => ?_
   have e0:A.tmps[0]?.getD undef = .pointer (some ⟨q,0,none⟩):=gdv (hb.2.2 0 (by kernel_rfl))
   exact ⟨.pointer (some ⟨q,0,none⟩),by simp [go_sem,e0],rfl⟩
  ·refine step_pure rfl fun A ww hb hw hf => ?_
   have e0:A.tmps[3]?.getD undef = .pointer (some ⟨q,0,none⟩):=gdv (hf 0 3 (by kernel_rfl))
   exact ⟨.pointer (some ⟨q,0,none⟩),by simp [go_sem,e0],rfl⟩
  ·refine step_pure rfl fun A ww hb hw hf => ?_
   have e0:A.tmps[4]?.getD undef = .pointer (some ⟨q,0,none⟩):=gdv (hf 1 4 (by kernel_rfl))
   exact ⟨.pointer (some ⟨q,0,none⟩),by simp [go_sem,e0],rfl⟩
  ·refine step_pure rfl fun A ww hb hw hf => ?_
   have e0:A.tmps[5]?.getD undef = .pointer (some ⟨q,0,none⟩):=gdv (hf 2 5 (by kernel_rfl))
   have hc:ww.cell? ⟨q,0,none⟩=some (.int .i64 v):=(cu hw 0).trans h0
   exact ⟨.int .i64 v,by simp [go_sem,e0,hc],rfl⟩
  ·refine step_callv rfl 17 _ _ rfl (by kernel_rfl) fun A ww hb hw hf => ?_
   have e6:A.tmps.getD 6 undef = .int .i64 v:=hf 3 6 (by kernel_rfl)
   show Calls Tryz.prog 17 #[.slice none 0 0,A.tmps.getD 6 undef,.int .i64 1] ww _
   rw [e6]
   refine (appendNumber_any ww ww.heap.size (.slice none 0 0) [] (RowB.nil ww _) (Nat.le_refl _) v 1 (by decide) (by simp)).mono ?_
   rintro r w' ⟨x,rfl,R,n⟩
   exact ⟨x,rfl,n,R.base hw.size⟩
  ·refine step_pure rfl fun A ww hb hw hf => ?_
   have e0:A.tmps[0]?.getD undef = .pointer (some ⟨q,0,none⟩):=gdv (hb.2.2 0 (by kernel_rfl))
   exact ⟨.pointer (some ⟨q,0,none⟩),by simp [go_sem,e0],rfl⟩
  ·refine step_pure rfl fun A ww hb hw hf => ?_
   have e0:A.tmps[8]?.getD undef = .pointer (some ⟨q,0,none⟩):=gdv (hf 5 8 (by kernel_rfl))
   exact ⟨.pointer (some ⟨q,0,none⟩),by simp [go_sem,e0],rfl⟩
  ·refine step_pure rfl fun A ww hb hw hf => ?_
   have e0:A.tmps[9]?.getD undef = .pointer (some ⟨q,0,none⟩):=gdv (hf 6 9 (by kernel_rfl))
   exact ⟨.pointer (some ⟨q,1,none⟩),by simp [go_sem,e0],rfl⟩
  ·refine step_pure rfl fun A ww hb hw hf => ?_
   have e0:A.tmps[10]?.getD undef = .pointer (some ⟨q,1,none⟩):=gdv (hf 7 10 (by kernel_rfl))
   have hc:ww.cell? ⟨q,1,none⟩=some (.slice l1.a l1.xs.length l1.c):=(cu hw 1).trans h1
   exact ⟨.slice l1.a l1.xs.length l1.c,by simp [go_sem,e0,hc],rfl⟩
  ·refine step_pure rfl fun A ww hb hw hf => ?_
   have e0:A.tmps[0]?.getD undef = .pointer (some ⟨q,0,none⟩):=gdv (hb.2.2 0 (by kernel_rfl))
   exact ⟨.pointer (some ⟨q,0,none⟩),by simp [go_sem,e0],rfl⟩
  ·refine step_pure rfl fun A ww hb hw hf => ?_
   have e0:A.tmps[12]?.getD undef = .pointer (some ⟨q,0,none⟩):=gdv (hf 9 12 (by kernel_rfl))
   exact ⟨.pointer (some ⟨q,0,none⟩),by simp [go_sem,e0],rfl⟩
  ·refine step_pure rfl fun A ww hb hw hf => ?_
   have e0:A.tmps[13]?.getD undef = .pointer (some ⟨q,0,none⟩):=gdv (hf 10 13 (by kernel_rfl))
   exact ⟨.pointer (some ⟨q,2,none⟩),by simp [go_sem,e0],rfl⟩
  ·refine step_pure rfl fun A ww hb hw hf => ?_
   have e0:A.tmps[14]?.getD undef = .pointer (some ⟨q,2,none⟩):=gdv (hf 11 14 (by kernel_rfl))
   have hc:ww.cell? ⟨q,2,none⟩=some (.slice l2.a l2.xs.length l2.c):=(cu hw 2).trans h2
   exact ⟨.slice l2.a l2.xs.length l2.c,by simp [go_sem,e0,hc],rfl⟩
  ·exact step_bs3 rfl 7 11 15 4 8 12 rfl (by kernel_rfl) (by kernel_rfl) (by kernel_rfl) rfl rfl rfl rfl
  ·refine step_callv rfl 107 _ _ rfl (by kernel_rfl) fun A ww hb hw hf => ?_
   obtain ⟨b,g,a,c,e16,L,R,Z⟩:=hf 13 16 (by kernel_rfl)
   show Calls Tryz.prog 107 #[A.tmps.getD 16 undef] ww _
   rw [e16]
   have lb:=bigL_len v 1
   have CC:=concatB_any ww b 3 3 [⟨g,a,c,bigL v 1⟩,l1,l2] rfl (by omega) L (by
    intro x hx
    simp only [List.mem_cons,List.not_mem_nil,or_false] at hx
    rcases hx with rfl | rfl | rfl
    ·exact ⟨R,Z⟩
    ·exact ⟨r1.up hw,z1⟩
    ·exact ⟨r2.up hw,z2⟩) (by rw [cat3];simp only [List.length_append];omega) (by rw [cat3];simp only [List.length_append];omega)
   rw [cat3] at CC
   exact CC.mono (by rintro r w' ⟨⟨x,rfl,R'⟩,n⟩;exact ⟨x,rfl,n,R'.base hw.size⟩)
  ·refine step_pure rfl fun A ww hb hw hf => ?_
   have e17:=hf 14 17 (by kernel_rfl)
   exact ⟨A.tmps.getD 17 undef,by simp [go_sem],e17⟩
 intro A W hb hw hF
 have e2:=hF 15 2 (by kernel_rfl)
 obtain ⟨vs,hvs⟩:∃ vs:Nat→Value,∀ d,A.tmps.getD d undef=vs d:=⟨_,fun _=>rfl⟩
 rw [hvs] at e2
 rw [puts_of (md := .any) (k:=16) (by kernel_rfl) rfl hb vs hvs]
 clear hb hF hvs h0 h1 h2 r1 r2 z1 z2 cu
 simp only [puts,Act.put,List.setIfInBounds_toArray,List.set_cons_succ,List.set_cons_zero]
 generalize vs 2=v2 at *
 go_wp2
 go_ret
 exact ⟨⟨_,rfl,e2⟩,hw⟩
end Go.Proofs.YtmmbkkfjiaoeiaaGreat
namespace Go.Proofs.YtmmbkkfjiaoeiaaGreat
open Go Go.RowKit
section
variable {P : Program} {ops : Array Oper} {Q : Exit → Act → World → Prop} {md : Region.Mode} {F : Nat → Fact} {a0 : Act} {w0 : World}
def FreshOk (P : Program) (md : Region.Mode) (ops : Array Oper) (Q : Exit → Act → World → Prop) (F : Nat → Fact) (a0 : Act) (w0 : World) (i : Nat) : Prop :=
 ∀ o, ops[i]? = some o → ∀ a w, Based ops a0 a → Below w0.heap.size w0 w → (∀ j d, waits md ops i j d = true → (F j).p (a.tmps.getD d undef) w) →
  ∀ K:Act→World→Prop,(∀ v w',Below w.heap.size w w'→(F i).p v w'→v = .pointer (some ⟨w.heap.size,0,none⟩)→w.heap.size < w'.heap.size→K (a.put o.dst v) w')→o.wp P a w K Q
theorem FreshOk.step {i:Nat} (h:FreshOk P md ops Q F a0 w0 i):StepOk P md ops Q F a0 w0 i :=
 fun o ho a w hb hw hf K hK=>h o ho a w hb hw hf K (fun v w' hn hv _ _=>hK v w' hn hv)
structure Sep (i1 i2 d1 d2:Nat) (listed:Array Bool) (a:Act) (w:World):Prop where
 l:listed.getD i1 false=true→∃ q,a.tmps.getD d1 undef = .pointer (some ⟨q,0,none⟩)∧q < w.heap.size
 r:listed.getD i2 false=true→∃ q,a.tmps.getD d2 undef = .pointer (some ⟨q,0,none⟩)∧q < w.heap.size
 n:listed.getD i1 false=true→listed.getD i2 false=true→a.tmps.getD d1 undef≠a.tmps.getD d2 undef
theorem Sep.other {i1 i2 d1 d2:Nat} {listed:Array Bool} {a:Act} {w w':World} (h:Sep i1 i2 d1 d2 listed a w) {i:Nat} {dst:Option Tmp} {v:Value} (h1:i≠i1) (h2:i≠i2) (e1:dst≠some d1) (e2:dst≠some d2) (hw:w.heap.size≤w'.heap.size):Sep i1 i2 d1 d2 (listed.setIfInBounds i true) (a.put dst v) w':=by
 refine ⟨fun g=>?_,fun g=>?_,fun g g'=>?_⟩
 ·rw [getD_off h1] at g
  obtain ⟨q,hq,hl⟩:=h.l g
  exact ⟨q,by rw [put_off e1];exact hq,by omega⟩
 ·rw [getD_off h2] at g
  obtain ⟨q,hq,hl⟩:=h.r g
  exact ⟨q,by rw [put_off e2];exact hq,by omega⟩
 ·rw [getD_off h1] at g
  rw [getD_off h2] at g'
  rw [put_off e1,put_off e2]
  exact h.n g g'
theorem Sep.this {i1 i2 d1 d2:Nat} {listed:Array Bool} {a:Act} {w w':World} (h:Sep i1 i2 d1 d2 listed a w) {v:Value} (hne:i1≠i2) (hd:d1≠d2) (hs:d1 < a.tmps.size) (hv:v = .pointer (some ⟨w.heap.size,0,none⟩)) (hw:w.heap.size < w'.heap.size) :
  Sep i1 i2 d1 d2 (listed.setIfInBounds i1 true) (a.put (some d1) v) w':=by
 have e2:(some d1:Option Tmp)≠some d2:=by simpa using hd
 refine ⟨fun _=>⟨w.heap.size,by rw [put_at hs,hv],hw⟩,fun g=>?_,fun _ g'=>?_⟩
 ·rw [getD_off hne] at g
  obtain ⟨q,hq,hl⟩:=h.r g
  exact ⟨q,by rw [put_off e2];exact hq,by omega⟩
 ·rw [getD_off hne] at g'
  obtain ⟨q,hq,hl⟩:=h.r g'
  rw [put_at hs,put_off e2,hq,hv]
  intro x
  simp only [Value.pointer.injEq,Option.some.injEq,Addr.mk.injEq,and_true] at x
  omega
theorem writes_is {i d:Nat} (h:writes ops i d=true):∃ o,ops[i]?=some o∧o.dst=some d:=by
  unfold writes at h
  cases ho:ops[i]? with
  | none=>rw [ho] at h;simp at h
  | some o =>
    rw [ho] at h
    exact ⟨o,rfl,by simpa using h⟩
end
end Go.Proofs.YtmmbkkfjiaoeiaaGreat
namespace Go.Proofs.YtmmbkkfjiaoeiaaGreat
open Go Go.RowKit
section
variable {P : Program} {ops : Array Oper} {Q : Exit → Act → World → Prop} {md : Region.Mode} {F : Nat → Fact} {a0 : Act} {w0 : World}
def tailWp (P:Program) (Q:Exit→Act→World→Prop):List Oper→Act→World→Prop
 | [],a,w=>Q .normal a w
 | o :: os,a,w=>o.wp P a w (fun a' w'=>tailWp P Q os a' w') Q
def textTail (md : Region.Mode) (draw : Bool) (ops : Array Oper) (n k : Nat) : Bool :=
  (ops.all fun o=>o.guard.isNone && (match o.dst with | some d=>decide (d < n) | none=>true))
  && ((List.range ops.size).all fun i=>match ops[i]? with
    | some o => o.after.all (fun e => !Region.binds md e || decide (e.on < i)) && (List.range i).all fun j => match ops[j]? with
      | some x=>x.dst.isNone || o.dst != x.dst
      | none=>true
    | none=>true)
  && decide (k≤ops.size)
  && (!draw || k == ops.size || (List.range k).all fun j=>(List.range (k+1)).any fun m=>decide (j < m) && match ops[m]? with
    | some o=>o.after.any (fun e=>Region.binds md e && e.on == j)
    | none=>false)
  && (!draw || (List.range ops.size).all fun i=>decide (i≤k) || match ops[i]? with
    | some o=>o.after.any (fun e=>Region.binds md e && e.on+1 == i)
    | none=>false)
structure TextT (md:Region.Mode) (draw:Bool) (ops:Array Oper) (n k:Nat):Prop where
 g:∀ (i:Nat) o,ops[i]?=some o→o.guard=none
 d:∀ (i:Nat) o d,ops[i]?=some o→o.dst=some d→d < n
 a:∀ (i:Nat) o,ops[i]?=some o→∀ e ∈ o.after,Region.binds md e=true→e.on < i
 x:∀ (i j:Nat) o o' d,ops[i]?=some o→ops[j]?=some o'→i≠j→o.dst=some d→o'.dst≠some d
 k1:k≤ops.size
 c:draw=true→k < ops.size→∀ j,j < k→∃ (m:Nat) (o:Oper),j < m∧m≤k∧ops[m]?=some o∧∃ e ∈ o.after,Region.binds md e=true∧e.on=j
 l:draw=true→∀ i o,k < i→ops[i]?=some o→∃ e ∈ o.after,Region.binds md e=true∧e.on+1=i
theorem textT_of {n k : Nat} {draw : Bool} (h : textTail md draw ops n k = true) : TextT md draw ops n k := by
  unfold textTail at h
  simp only [Bool.and_eq_true,decide_eq_true_eq] at h
  obtain ⟨⟨⟨⟨h1,h2⟩,h3⟩,h4⟩,h5⟩:=h
  rw [Array.all_eq_true_iff_forall_mem] at h1
  rw [List.all_eq_true] at h2
  have H:∀ (i j:Nat) o o' d,j < i→ops[i]?=some o→ops[j]?=some o'→o.dst=some d→o'.dst≠some d:=by
    intro i j o o' d hij hi hj hd hd'
    have q:=h2 i (List.mem_range.2 (Array.getElem?_eq_some_iff.1 hi).1)
    simp only [hi,Bool.and_eq_true] at q
    have r:=List.all_eq_true.1 q.2 j (List.mem_range.2 hij)
    simp only [hj,hd,hd'] at r
    simp at r
  refine ⟨?_,?_,?_,?_,h3,?_,?_⟩
  · intro i o ho
    have q:=h1 o (Array.mem_of_getElem? ho)
    simp only [Bool.and_eq_true] at q
    exact Option.isNone_iff_eq_none.1 q.1
  · intro i o d ho hd
    have q:=h1 o (Array.mem_of_getElem? ho)
    simp only [Bool.and_eq_true,hd,decide_eq_true_eq] at q
    exact q.2
  · intro i o ho e he hb
    have q:=h2 i (List.mem_range.2 (Array.getElem?_eq_some_iff.1 ho).1)
    simp only [ho,Bool.and_eq_true] at q
    have r:=(Array.all_eq_true_iff_forall_mem.1 q.1) e he
    rw [hb] at r
    simpa using r
  · intro i j o o' d hi hj hij hd hd'
    rcases Nat.lt_or_gt_of_ne hij with h | h
    · exact H j i o' o d h hj hi hd' hd
    · exact H i j o o' d h hi hj hd hd'
  · intro hdr hk j hj
    rw [hdr] at h4
    have h4':((List.range k).all fun j=>(List.range (k+1)).any fun m=>decide (j < m) && match ops[m]? with
      | some o=>o.after.any (fun e=>Region.binds md e && e.on == j)
      | none=>false)=true:=by
      simp only [Bool.not_true,Bool.false_or,Bool.or_eq_true] at h4
      rcases h4 with e | e
      · have : k = ops.size := by simpa using e
        omega
      · exact e
    have q:=List.all_eq_true.1 h4' j (List.mem_range.2 hj)
    obtain ⟨m,hm,r⟩:=List.any_eq_true.1 q
    simp only [Bool.and_eq_true,decide_eq_true_eq] at r
    cases ho:ops[m]? with
    | none=>rw [ho] at r;simp at r
    | some o =>
      rw [ho] at r
      obtain ⟨e,he,hb⟩:=Array.any_eq_true'.1 r.2
      simp only [Bool.and_eq_true,beq_iff_eq] at hb
      exact ⟨m,o,r.1,by have:=List.mem_range.1 hm;omega,ho,e,he,hb.1,hb.2⟩
  · intro hdr i o hki ho
    rw [hdr] at h5
    simp only [Bool.not_true,Bool.false_or] at h5
    rw [List.all_eq_true] at h5
    have q:=h5 i (List.mem_range.2 (Array.getElem?_eq_some_iff.1 ho).1)
    rw [ho] at q
    simp only [Bool.or_eq_true] at q
    rcases q with e | e
    · have : i ≤ k := by simpa using e
      omega
    · obtain ⟨e, he, hb⟩ := Array.any_eq_true'.1 e
      simp only [Bool.and_eq_true,beq_iff_eq] at hb
      exact ⟨e,he,hb.1,hb.2⟩
theorem Held.nextT {n k : Nat} {draw : Bool} (T : TextT md draw ops n k) (hn : n ≤ a0.tmps.size) {listed : Array Bool} {a : Act} {w : World} (H : Held md ops F a0 w0 listed a w) {i : Nat} {o : Oper} (ho : ops[i]? = some o) (hr : i ∈ Region.ready md ops listed)
  {v:Value} {w':World} (hw:Below w.heap.size w w') (hf:(F i).p v w'):Held md ops F a0 w0 (listed.setIfInBounds i true) (a.put o.dst v) w':=by
 have hi:i < ops.size:=(Array.getElem?_eq_some_iff.1 ho).1
 have hz:a.tmps.size=a0.tmps.size:=H.b.2.1
 refine ⟨⟨by rw [put_defers];exact H.b.1,by rw [put_size];exact hz,fun d hd=>?_⟩,nxt H.n hw,?_,?_,by simp [H.s]⟩
 ·rw [put_off]
  ·exact H.b.2.2 d hd
  ·have q := Array.all_eq_true_iff_forall_mem.1 hd o (Array.mem_of_getElem? ho)
   simpa using q
 ·intro j oj d hoj hj hd
  by_cases e:i=j
  ·subst e
   obtain rfl:=Option.some.inj (ho.symm.trans hoj)
   rw [hd,put_at (Nat.lt_of_lt_of_le (T.d i o d ho hd) (hz ▸ hn))]
   exact hf
  ·rw [getD_off e] at hj
   rw [put_off (T.x j i oj o d hoj ho (Ne.symm e) hd)]
   exact (F j).up hw (H.f j oj d hoj hj hd)
 ·intro j oj hoj hj e he hb
  obtain ⟨_,o',ho',q⟩:=mem_ready.1 hr
  by_cases c:i=e.on
  ·rw [← c]
   exact getD_same (by rw [H.s];exact hi) _
  ·rw [getD_off c]
   by_cases e':i=j
   ·subst e'
    obtain rfl:=Option.some.inj (ho'.symm.trans hoj)
    exact q e he hb
   ·rw [getD_off e'] at hj
    exact H.c j oj hoj hj e he hb
theorem tail_any {n k : Nat} (T : TextT md true ops n k) : ∀ (m t fuel : Nat) (listed : Array Bool) (a : Act) (w : World), t + m = ops.size → k ≤ t → listed.size = ops.size → (∀ j, j < t → listed.getD j false = true) → (∀ j, t ≤ j → listed.getD j false = false) → m ≤ fuel →
    tailWp P Q (ops.toList.drop t) a w→wpAny P md ops Q fuel listed a w:=by
  intro m
  induction m with
  | zero =>
    intro t fuel listed a w ht hk hs h1 h2 hf hq
    obtain rfl:t=ops.size:=by omega
    have e:ops.toList.drop ops.size=[]:=by simp
    rw [e] at hq
    refine wpAny_done ?_ hq fuel
    cases hr:Region.ready md ops listed with
    | nil=>rfl
    | cons i tl =>
      exfalso
      have hi:i ∈ Region.ready md ops listed:=by rw [hr];simp
      obtain ⟨h0,o,ho,_⟩:=mem_ready.1 hi
      have hlt:=(Array.getElem?_eq_some_iff.1 ho).1
      rw [dflt (by rw [hs];exact hlt),h1 i hlt] at h0
      simp at h0
  | succ m ih =>
    intro t fuel listed a w ht hk hs h1 h2 hf hq
    have hlt:t < ops.size:=by omega
    obtain ⟨o,ho⟩:∃ o,ops[t]?=some o:=⟨ops[t],by simp [hlt]⟩
    have e:ops.toList.drop t=o :: ops.toList.drop (t+1):=by
      rw [List.drop_eq_getElem_cons (by simpa using hlt)]
      congr 1
      have:=(Array.getElem?_eq_some_iff.1 ho).2
      simpa using this
    rw [e] at hq
    obtain ⟨f2,rfl⟩:∃ f2,fuel=f2+1:=⟨fuel - 1,by omega⟩
    refine ⟨fun hr=>?_,fun i hi=>?_⟩
    · exfalso
      have hr':t ∈ Region.ready md ops listed:=mem_ready.2 ⟨by rw [dflt (by rw [hs];exact hlt)];exact h2 t (Nat.le_refl _),o,ho,fun e he hb=>h1 e.on (T.a t o ho e he hb)⟩
      rw [hr] at hr'
      simp at hr'
    · obtain ⟨h0, oi, hoi, hall⟩ := mem_ready.1 hi
      have hil:=(Array.getElem?_eq_some_iff.1 hoi).1
      rw [dflt (by rw [hs];exact hil)] at h0
      have hti:i=t:=by
        rcases Nat.lt_trichotomy i t with c | c | c
        · rw [h1 i c] at h0;simp at h0
        · exact c
        · exfalso
          obtain ⟨e,he,hb,hq'⟩:=T.l rfl i oi (by omega) hoi
          have:=hall e he hb
          rw [h2 e.on (by omega)] at this
          simp at this
      subst hti
      obtain rfl:=Option.some.inj (ho.symm.trans hoi)
      have hwant:Region.wanted o (yielded ops a.tmps)=true:=by simp [Region.wanted,T.g i o ho]
      refine wpOp_step ho fun K' hK=>?_
      rw [if_pos hwant]
      refine Oper.wp_mono (fun a' w' h=>hK _ _ (ih (i+1) f2 (listed.setIfInBounds i true) a' w' (by omega) (by omega) (by simp [hs]) (fun j hj=>?_) (fun j hj=>?_) (by omega) h)) hq
      · by_cases c : i = j
        · subst c
          exact getD_same (by rw [hs];exact hlt) _
        · rw [getD_off c]
          exact h1 j (by omega)
      · rw [getD_off (by omega)]
        exact h2 j (by omega)
def blkOf:Value→Option Nat
 | .pointer (some a)=>some a.block
 | .slice (some a) _ _=>some a.block
 | _=>none
def FreshG (P : Program) (md : Region.Mode) (ops : Array Oper) (Q : Exit → Act → World → Prop) (F : Nat → Fact) (a0 : Act) (w0 : World) (i : Nat) : Prop :=
 ∀ o, ops[i]? = some o → ∀ a w, Based ops a0 a → Below w0.heap.size w0 w → (∀ j d, waits md ops i j d = true → (F j).p (a.tmps.getD d undef) w) →
  ∀ K:Act→World→Prop,(∀ v w',Below w.heap.size w w'→(F i).p v w'→(∃ b,blkOf v=some b∧w.heap.size≤b∧b < w'.heap.size)→K (a.put o.dst v) w')→o.wp P a w K Q
theorem FreshOk.g {i:Nat} (h:FreshOk P md ops Q F a0 w0 i):FreshG P md ops Q F a0 w0 i :=
 fun o ho a w hb hw hf K hK=>h o ho a w hb hw hf K (fun v w' hn hv e hz=>hK v w' hn hv ⟨w.heap.size,by rw [e];rfl,Nat.le_refl _,hz⟩)
theorem FreshG.step {i:Nat} (h:FreshG P md ops Q F a0 w0 i):StepOk P md ops Q F a0 w0 i :=
 fun o ho a w hb hw hf K hK=>h o ho a w hb hw hf K (fun v w' hn hv _=>hK v w' hn hv)
structure SepL (fr:List (Nat × Nat)) (listed:Array Bool) (a:Act) (w:World):Prop where
 l:∀ p ∈ fr,listed.getD p.1 false=true→∃ q,blkOf (a.tmps.getD p.2 undef)=some q∧q < w.heap.size
 n:∀ p ∈ fr,∀ p' ∈ fr,p≠p'→listed.getD p.1 false=true→listed.getD p'.1 false=true→blkOf (a.tmps.getD p.2 undef)≠blkOf (a.tmps.getD p'.2 undef)
theorem SepL.other {fr:List (Nat × Nat)} {listed:Array Bool} {a:Act} {w w':World} (h:SepL fr listed a w) {i:Nat} {dst:Option Tmp} {v:Value} (h1:∀ p ∈ fr,i≠p.1) (e1:∀ p ∈ fr,dst≠some p.2) (hw:w.heap.size≤w'.heap.size):SepL fr (listed.setIfInBounds i true) (a.put dst v) w':=by
 refine ⟨fun p hp g=>?_,fun p hp p' hp' hne g g'=>?_⟩
 ·rw [getD_off (h1 p hp)] at g
  obtain ⟨q,hq,hl⟩:=h.l p hp g
  exact ⟨q,by rw [put_off (e1 p hp)];exact hq,by omega⟩
 ·rw [getD_off (h1 p hp)] at g
  rw [getD_off (h1 p' hp')] at g'
  rw [put_off (e1 p hp),put_off (e1 p' hp')]
  exact h.n p hp p' hp' hne g g'
theorem SepL.this {fr : List (Nat × Nat)} {listed : Array Bool} {a : Act} {w w' : World} (h : SepL fr listed a w) {v : Value} {i d : Nat} (hi : ∀ p ∈ fr, p ≠ (i, d) → i ≠ p.1 ∧ d ≠ p.2) (hs : d < a.tmps.size) (hv : ∃ b, blkOf v = some b ∧ w.heap.size ≤ b ∧ b < w'.heap.size) :
  SepL fr (listed.setIfInBounds i true) (a.put (some d) v) w':=by
 obtain ⟨b,hb,hb1,hb2⟩:=hv
 have old:∀ p ∈ fr,p≠(i,d)→(listed.setIfInBounds i true).getD p.1 false=true→∃ q,blkOf ((a.put (some d) v).tmps.getD p.2 undef)=some q∧q < w.heap.size:=by
  intro p hp c g
  obtain ⟨c1,c2⟩:=hi p hp c
  rw [getD_off c1] at g
  obtain ⟨q,hq,hl⟩:=h.l p hp g
  exact ⟨q,by rw [put_off (by simpa using c2)];exact hq,hl⟩
 have new:blkOf ((a.put (some d) v).tmps.getD d undef)=some b:=by rw [put_at hs,hb]
 have ne:∀ q,q < w.heap.size→(some q:Option Nat)≠some b:=by
  intro q hq x
  simp only [Option.some.injEq] at x
  omega
 refine ⟨fun p hp g=>?_,fun p hp p' hp' hne g g'=>?_⟩
 ·by_cases c : p = (i, d)
  ·subst c
   exact ⟨b,new,hb2⟩
  ·obtain ⟨q, hq, hl⟩ := old p hp c g
   exact ⟨q,hq,by omega⟩
 ·by_cases c : p = (i, d)
  ·subst c
   obtain ⟨q,hq,hl⟩:=old p' hp' (Ne.symm hne) g'
   show blkOf ((a.put (some d) v).tmps.getD d undef)≠_
   rw [new,hq]
   exact (ne q hl).symm
  ·obtain ⟨q, hq, hl⟩ := old p hp c g
   by_cases c':p'=(i,d)
   ·subst c'
    show _≠blkOf ((a.put (some d) v).tmps.getD d undef)
    rw [new,hq]
    exact ne q hl
   ·obtain ⟨c1, c2⟩ := hi p hp c
    obtain ⟨c1',c2'⟩:=hi p' hp' c'
    rw [getD_off c1] at g
    rw [getD_off c1'] at g'
    rw [put_off (by simpa using c2),put_off (by simpa using c2')]
    exact h.n p hp p' hp' hne g g'
abbrev HeadDone (P:Program) (ops:Array Oper) (Q:Exit→Act→World→Prop) (F:Nat→Fact) (a0:Act) (w0:World) (k:Nat) (fr:List (Nat × Nat)):Prop :=
 ∀ a w,Based ops a0 a→Below w0.heap.size w0 w→(∀ i o d,i < k→ops[i]?=some o→o.dst=some d→(F i).p (a.tmps.getD d undef) w)→(∀ p ∈ fr,∀ p' ∈ fr,p≠p'→blkOf (a.tmps.getD p.2 undef)≠blkOf (a.tmps.getD p'.2 undef))→tailWp P Q (ops.toList.drop k) a w
theorem any_tail {n k : Nat} (T : TextT md true ops n k) (hn : n ≤ a0.tmps.size) (steps : ∀ i, i < k → StepOk P md ops Q F a0 w0 i) (fr : List (Nat × Nat)) (hfr : ∀ p ∈ fr, p.1 < k ∧ writes ops p.1 p.2 = true ∧ FreshG P md ops Q F a0 w0 p.1) (hnd : ∀ p ∈ fr, ∀ p' ∈ fr, p ≠ p' → p.1 ≠ p'.1)
    (fin:HeadDone P ops Q F a0 w0 k fr) :
    ∀ (fuel:Nat) (listed:Array Bool) (a:Act) (w:World),left listed ops.size≤fuel→Held md ops F a0 w0 listed a w→SepL fr listed a w→(∀ j,k≤j→listed.getD j false=false)→ops.size - k≤fuel→wpAny P md ops Q fuel listed a w:=by
  intro fuel
  induction fuel with
  | zero =>
    intro listed a w hl H S hk hf
    have hks:k=ops.size:=by have:=T.k1;omega
    have hall:∀ i,i < ops.size→listed.getD i false=true:=fun i hi=>by
      rw [← dflt (by rw [H.s];exact hi)]
      exact left_zero (n:=ops.size) (by omega) i hi
    exact tail_any T 0 ops.size 0 listed a w (by omega) (by omega) H.s (fun j hj=>hall j hj) (fun j hj=>hk j (by omega)) (Nat.le_refl _) (hks ▸ fin a w H.b H.n (fun i o d hi ho hd=>H.f i o d ho (hall i (by omega)) hd) (fun p hp p' hp' hne=>S.n p hp p' hp' hne (hall p.1 (by have:=(hfr p hp).1;omega)) (hall p'.1 (by have:=(hfr p' hp').1;omega))))
  | succ fuel ih =>
    intro listed a w hl H S hk hf
    by_cases hall:∀ j,j < k→listed.getD j false=true
    · exact tail_any T (ops.size - k) k (fuel+1) listed a w (by have:=T.k1;omega) (Nat.le_refl _) H.s hall hk hf (fin a w H.b H.n (fun i o d hi ho hd=>H.f i o d ho (hall i hi) hd) (fun p hp p' hp' hne=>S.n p hp p' hp' hne (hall p.1 (hfr p hp).1) (hall p'.1 (hfr p' hp').1)))
    · refine ⟨fun hr => ?_, fun i hi => ?_⟩
      · exfalso
        refine hall fun j hj=>?_
        have:∀ m i,i < m→i < k→listed.getD i false=true:=by
          intro m
          induction m with
          | zero=>intro i hi;omega
          | succ m ihm =>
            intro i hi hik
            rcases Nat.lt_or_ge i m with h1 | h1
            · exact ihm i h1 hik
            · obtain rfl : i = m := by omega
              cases hc:listed.getD i false
              · exfalso
                have hks:i < ops.size:=by have:=T.k1;omega
                obtain ⟨o,ho⟩:∃ o,ops[i]?=some o:=⟨ops[i],by simp [hks]⟩
                have hr':i ∈ Region.ready md ops listed:=mem_ready.2 ⟨by rw [dflt (by rw [H.s];omega)];exact hc,o,ho,fun e he hb=>ihm e.on (T.a i o ho e he hb) (by have:=T.a i o ho e he hb;omega)⟩
                rw [hr] at hr'
                simp at hr'
              · rfl
        exact this (j+1) j (by omega) hj
      · obtain ⟨h0, o, ho, hready⟩ := mem_ready.1 hi
        have hlt:=(Array.getElem?_eq_some_iff.1 ho).1
        have hik:i < k:=by
          rcases Nat.lt_or_ge i k with h1 | h1
          · exact h1
          · exfalso
            rcases Nat.lt_or_ge k i with h2 | h2
            · obtain ⟨e, he, hb, hq⟩ := T.l rfl i o h2 ho
              have:=hready e he hb
              rw [hk e.on (by omega)] at this
              simp at this
            · obtain rfl : i = k := by omega
              refine hall fun j hj=>?_
              have ah:∀ m j,i - j≤m→j < i→listed.getD j false=true:=by
                intro m
                induction m with
                | zero=>intro j hm hj;omega
                | succ m ihm =>
                  intro j hm hj
                  obtain ⟨p,oo,hjp,hpk,hoo,e,he,hb,rfl⟩:=T.c rfl hlt j hj
                  rcases Nat.lt_or_ge p i with h1 | h1
                  · exact H.c p oo hoo (ihm p (by omega) h1) e he hb
                  · obtain rfl : p = i := by omega
                    obtain rfl:=Option.some.inj (ho.symm.trans hoo)
                    exact hready e he hb
              exact ah (i - j) j (Nat.le_refl _) hj
        have hwant:Region.wanted o (yielded ops a.tmps)=true:=by simp [Region.wanted,T.g i o ho]
        refine wpOp_step ho fun K' hK=>?_
        rw [if_pos hwant]
        have hll:=left_set (by rw [H.s];exact hlt) h0 ops.size hlt
        have hfacts:∀ j d,waits md ops i j d=true→(F j).p (a.tmps.getD d undef) w:=by
          intro j d hjd
          unfold waits at hjd
          rw [ho] at hjd
          cases hoj:ops[j]? with
          | none=>rw [hoj] at hjd;simp at hjd
          | some oj =>
            rw [hoj] at hjd
            simp only [Bool.and_eq_true,beq_iff_eq] at hjd
            obtain ⟨e,he,hb⟩:=Array.any_eq_true'.1 hjd.1
            simp only [Bool.and_eq_true,beq_iff_eq] at hb
            exact H.f j oj d hoj (by rw [← hb.2];exact hready e he hb.1) hjd.2
        have htail:ops.size - k≤fuel:=by
          -- k and all behind it are still to come,and i besides
          have lk : ∀ m, m ≤ ops.size → k ≤ m → (m - k) + left listed k ≤ left listed m := by
            intro m
            induction m with
            | zero => intro _ hk0; have : k = 0 := by omega
                      subst this;simp
            | succ m ihm =>
              intro hm hkm
              rcases Nat.lt_or_ge m k with c | c
              · have : k = m + 1 := by omega
                subst this
                omega
              · have q := ihm (by omega) c
                rw [left,if_pos (by rw [dflt (by rw [H.s];omega)];exact hk m c)]
                omega
          have l1:1≤left listed k:=by
            have:=left_set (by rw [H.s];exact hlt) h0 k hik
            omega
          have:=lk ops.size (Nat.le_refl _) T.k1
          omega
        have go:∀ v w',Below w.heap.size w w'→(F i).p v w'→SepL fr (listed.setIfInBounds i true) (a.put o.dst v) w'→K' (a.put o.dst v) w':=by
          intro v w' hw hf' hS
          refine hK _ _ (ih _ _ _ (by omega) (H.nextT T hn ho hi hw hf') hS (fun j hj=>?_) htail)
          rw [getD_off (by omega)]
          exact hk j hj
        by_cases c:∃ p ∈ fr,i=p.1
        · obtain ⟨p, hp, rfl⟩ := c
          obtain ⟨_,hw',f⟩:=hfr p hp
          obtain ⟨op,hop,hdp⟩:=writes_is hw'
          obtain rfl:=Option.some.inj (hop.symm.trans ho)
          refine f op ho a w H.b H.n hfacts K' fun v w' hw hf' hv=>go v w' hw hf' ?_
          rw [hdp]
          refine S.this (i:=p.1) (d:=p.2) (fun p' hp' hne=>?_) (by rw [H.b.2.1];exact Nat.lt_of_lt_of_le (T.d p.1 op p.2 hop hdp) hn) hv
          have n1:=hnd p hp p' hp' (Ne.symm hne)
          obtain ⟨o',ho',hd'⟩:=writes_is (hfr p' hp').2.1
          exact ⟨n1,fun e=>T.x p.1 p'.1 op o' p.2 hop ho' n1 hdp (by rw [e];exact hd')⟩
        · refine steps i hik o ho a w H.b H.n hfacts K' fun v w' hw hf' => go v w' hw hf' ?_
          refine S.other (fun p hp e=>c ⟨p,hp,e⟩) (fun p hp e=>?_) hw.size
          obtain ⟨o',ho',hd'⟩:=writes_is (hfr p hp).2.1
          exact T.x i p.1 o o' p.2 ho ho' (fun x=>c ⟨p,hp,x⟩) e hd'
theorem tail_line {n k:Nat} {draw:Bool} (T:TextT md draw ops n k):∀ (m t:Nat) (a:Act) (w:World),t+m=ops.size→k≤t→tailWp P Q (ops.toList.drop t) a w→wpOps P ops Q (List.range' t m) a w:=by
  intro m
  induction m with
  | zero =>
    intro t a w ht hk hq
    obtain rfl:t=ops.size:=by omega
    have e:ops.toList.drop ops.size=[]:=by simp
    rw [e] at hq
    exact hq
  | succ m ih =>
    intro t a w ht hk hq
    have hlt:t < ops.size:=by omega
    obtain ⟨o,ho⟩:∃ o,ops[t]?=some o:=⟨ops[t],by simp [hlt]⟩
    have e:ops.toList.drop t=o :: ops.toList.drop (t+1):=by
      rw [List.drop_eq_getElem_cons (by simpa using hlt)]
      congr 1
      have:=(Array.getElem?_eq_some_iff.1 ho).2
      simpa using this
    rw [e] at hq
    have hwant:Region.wanted o (yielded ops a.tmps)=true:=by simp [Region.wanted,T.g t o ho]
    rw [List.range'_succ,wpOps_cons]
    refine wpOp_step ho fun K' hK=>?_
    rw [if_pos hwant]
    exact Oper.wp_mono (fun a' w' h=>hK _ _ (ih (t+1) a' w' (by omega) (by omega) h)) hq
theorem line_tail {n k : Nat} {draw : Bool} (T : TextT md draw ops n k) (hn : n ≤ a0.tmps.size) (steps : ∀ i, i < k → StepOk P md ops Q F a0 w0 i) (fr : List (Nat × Nat)) (hfr : ∀ p ∈ fr, p.1 < k ∧ writes ops p.1 p.2 = true ∧ FreshG P md ops Q F a0 w0 p.1) (hnd : ∀ p ∈ fr, ∀ p' ∈ fr, p ≠ p' → p.1 ≠ p'.1)
    (fin:HeadDone P ops Q F a0 w0 k fr) :
    ∀ (m i : Nat) (listed : Array Bool) (a : Act) (w : World), i + m = ops.size → i ≤ k → Based ops a0 a → Below w0.heap.size w0 w → (∀ j o d, j < i → ops[j]? = some o → o.dst = some d → (F j).p (a.tmps.getD d undef) w) → listed.size = ops.size → (∀ j, j < i → listed.getD j false = true) → SepL fr listed a w →
      wpOps P ops Q (List.range' i m) a w:=by
  intro m
  induction m with
  | zero =>
    intro i listed a w him hik hb hw hf hs hl S
    obtain rfl:i=k:=by have:=T.k1;omega
    exact tail_line T 0 i a w (by omega) (Nat.le_refl _) (fin a w hb hw hf (fun p hp p' hp' hne=>S.n p hp p' hp' hne (hl p.1 (hfr p hp).1) (hl p'.1 (hfr p' hp').1)))
  | succ m ih =>
    intro i listed a w him hik hb hw hf hs hl S
    have hlt:i < ops.size:=by omega
    obtain ⟨o,ho⟩:∃ o,ops[i]?=some o:=⟨ops[i],by simp [hlt]⟩
    rcases Nat.lt_or_ge i k with h1 | h1
    · have hwant : Region.wanted o (yielded ops a.tmps) = true := by simp [Region.wanted, T.g i o ho]
      rw [List.range'_succ,wpOps_cons]
      refine wpOp_step ho fun K' hK=>?_
      rw [if_pos hwant]
      have hfacts:∀ j d,waits md ops i j d=true→(F j).p (a.tmps.getD d undef) w:=by
        intro j d hjd
        unfold waits at hjd
        rw [ho] at hjd
        cases hoj:ops[j]? with
        | none=>rw [hoj] at hjd;simp at hjd
        | some oj =>
          rw [hoj] at hjd
          simp only [Bool.and_eq_true,beq_iff_eq] at hjd
          obtain ⟨e,he,hb⟩:=Array.any_eq_true'.1 hjd.1
          simp only [Bool.and_eq_true,beq_iff_eq] at hb
          exact hf j oj d (by rw [← hb.2];exact T.a i o ho e he hb.1) hoj hjd.2
      have go:∀ v w',Below w.heap.size w w'→(F i).p v w'→SepL fr (listed.setIfInBounds i true) (a.put o.dst v) w'→K' (a.put o.dst v) w':=by
        intro v w' hw' hfv hS
        refine hK _ _ (ih (i+1) (listed.setIfInBounds i true) _ _ (by omega) (by omega) ⟨by rw [put_defers];exact hb.1,by rw [put_size];exact hb.2.1,fun d hd=>?_⟩ (nxt hw hw') ?_ (by simp [hs]) (fun j hj=>?_) hS)
        · rw [put_off]
          · exact hb.2.2 d hd
          · have q := Array.all_eq_true_iff_forall_mem.1 hd o (Array.mem_of_getElem? ho)
            simpa using q
        · intro j oj d hj hoj hd
          by_cases e:i=j
          · subst e
            obtain rfl:=Option.some.inj (ho.symm.trans hoj)
            rw [hd,put_at (Nat.lt_of_lt_of_le (T.d i o d ho hd) (hb.2.1 ▸ hn))]
            exact hfv
          · rw [put_off (T.x j i oj o d hoj ho (Ne.symm e) hd)]
            exact (F j).up hw' (hf j oj d (by omega) hoj hd)
        · by_cases c : i = j
          · subst c
            exact getD_same (by rw [hs];exact hlt) _
          · rw [getD_off c]
            exact hl j (by omega)
      by_cases c:∃ p ∈ fr,i=p.1
      · obtain ⟨p, hp, rfl⟩ := c
        obtain ⟨_,hw',f⟩:=hfr p hp
        obtain ⟨op,hop,hdp⟩:=writes_is hw'
        obtain rfl:=Option.some.inj (hop.symm.trans ho)
        refine f op ho a w hb hw hfacts K' fun v w' hw' hf' hv=>go v w' hw' hf' ?_
        rw [hdp]
        refine S.this (i:=p.1) (d:=p.2) (fun p' hp' hne=>?_) (by rw [hb.2.1];exact Nat.lt_of_lt_of_le (T.d p.1 op p.2 hop hdp) hn) hv
        have n1:=hnd p hp p' hp' (Ne.symm hne)
        obtain ⟨o',ho',hd'⟩:=writes_is (hfr p' hp').2.1
        exact ⟨n1,fun e=>T.x p.1 p'.1 op o' p.2 hop ho' n1 hdp (by rw [e];exact hd')⟩
      · refine steps i h1 o ho a w hb hw hfacts K' fun v w' hw' hf' => go v w' hw' hf' ?_
        refine S.other (fun p hp e=>c ⟨p,hp,e⟩) (fun p hp e=>?_) hw'.size
        obtain ⟨o',ho',hd'⟩:=writes_is (hfr p hp).2.1
        exact T.x i p.1 o o' p.2 ho ho' (fun x=>c ⟨p,hp,x⟩) e hd'
    · obtain rfl : i = k := by omega
      exact tail_line T (m+1) i a w him (Nat.le_refl _) (fin a w hb hw hf (fun p hp p' hp' hne=>S.n p hp p' hp' hne (hl p.1 (hfr p hp).1) (hl p'.1 (hfr p' hp').1)))
theorem region_tail {id : Nat} {w : World} {draw : Bool} (k : Nat) (F : Nat → Fact) (hm : P.follows .mixedOrders = true) (hT : textTail .any draw ops a0.tmps.size k = true) (steps : ∀ i, i < k → StepOk P .any ops Q F a0 w i)
    (fr:List (Nat × Nat)) (hfr:∀ p ∈ fr,p.1 < k∧writes ops p.1 p.2=true∧FreshG P .any ops Q F a0 w p.1) (hnd:∀ p ∈ fr,∀ p' ∈ fr,p≠p'→p.1≠p'.1)
    (fin:∀ a w',Based ops a0 a→Below w.heap.size w w'→(∀ i d,decide (i < k)=true→writes ops i d=true→(F i).p (a.tmps.getD d undef) w')→(∀ p ∈ fr,∀ p' ∈ fr,p≠p'→blkOf (a.tmps.getD p.2 undef)≠blkOf (a.tmps.getD p'.2 undef))→tailWp P Q (ops.toList.drop k) a w'):(Code.region id ops draw).wp P Q a0 w:=by
  have T:=textT_of hT
  have fin':HeadDone P ops Q F a0 w k fr:=fun a w' hb hw hf hne=>fin a w' hb hw (fun i d hi hd=>by
    obtain ⟨o,ho,hd'⟩:=writes_is hd
    exact hf i o d (of_decide_eq_true hi) ho hd') hne
  have z:∀ j,(Array.replicate ops.size false).getD j false=false:=fun j=>by
    rw [Array.getD_eq_getD_getElem?,Array.getElem?_replicate]
    split <;> rfl
  have S0:∀ w',SepL fr (Array.replicate ops.size false) a0 w':=fun w'=>⟨fun p hp g=>by rw [z] at g;simp at g,fun p hp p' hp' hne g g'=>by rw [z] at g;simp at g⟩
  cases draw with
  | false =>
    refine wp_region ?_
    have h:=line_tail (w0:=w) T (Nat.le_refl _) steps fr hfr hnd fin' ops.size 0 (Array.replicate ops.size false) a0 w (by omega) (by omega) ⟨rfl,rfl,fun _ _=>rfl⟩ (Below.refl _ _) (fun j o d hj=>by omega) (by simp) (fun j hj=>by omega) (S0 w)
    rw [List.range_eq_range']
    exact h
  | true =>
    refine wp_region_any hm ?_
    refine any_tail (w0:=w) T (Nat.le_refl _) steps fr hfr hnd fin' ops.size _ a0 _ ?_ ⟨⟨rfl,rfl,fun _ _=>rfl⟩,(Below.refl _ _).drew,?_,?_,by simp⟩ (S0 _) (fun j _=>z j) (by omega)
    · have : ∀ m, left (Array.replicate ops.size false) m ≤ m := by
        intro m
        induction m with
        | zero=>exact Nat.le_refl _
        | succ m ih=>unfold left;split <;> omega
      exact this _
    · intro i o d ho hl _
      rw [z] at hl
      simp at hl
    · intro i o ho hl
      rw [z] at hl
      simp at hl
theorem puts_tail {n k : Nat} {draw : Bool} (hT : textTail md draw ops n k = true) (hn : n = a0.tmps.size) {a : Act} (hb : Based ops a0 a) (vs : Nat → Value) (hv : ∀ d, a.tmps.getD d undef = vs d) : a = puts vs a0 ops.toList := by
 have T:=textT_of hT
 have hin:∀ o ∈ ops.toList,∀ e,o.dst=some e→e < a0.tmps.size:=fun o ho e he=>by
  obtain ⟨i,hi⟩:=List.getElem?_of_mem ho
  have:=T.d i o e (by simpa using hi) he
  rw [hn] at this
  exact this
 obtain ⟨s1,s2⟩:=puts_size vs ops.toList a0
 obtain ⟨ta,da⟩:=a
 obtain ⟨h1,h2,h3⟩:=hb
 have e1:ta=(puts vs a0 ops.toList).tmps:=by
  apply Array.ext
  ·rw [s1];exact h2
  ·intro i hi hi'
   have g:=puts_get vs i ops.toList a0 hin
   have l:ta[i]=ta.getD i undef:=by simp [Array.getD_eq_getD_getElem?,hi]
   have r:(puts vs a0 ops.toList).tmps[i]=(puts vs a0 ops.toList).tmps.getD i undef:=by simp only [Array.getD_eq_getD_getElem?,Array.getElem?_eq_getElem hi',Option.getD_some]
   rw [l,r,g]
   by_cases c:ops.toList.any (fun o=>o.dst == some i)=true
   ·rw [if_pos c];exact hv i
   ·rw [if_neg c]
    refine h3 i ?_
    unfold apart
    rw [Array.all_eq_true_iff_forall_mem]
    intro o ho
    have hne:¬ (o.dst == some i)=true:=fun x=>c (List.any_eq_true.2 ⟨o,by simpa using ho,x⟩)
    simpa using hne
 have e2:da=(puts vs a0 ops.toList).defers:=h1.trans s2.symm
 subst e1
 subst e2
 rfl
theorem Based.put {a:Act} (hb:Based ops a0 a) {o:Oper} {i:Nat} (ho:ops[i]?=some o) (v:Value):Based ops a0 (a.put o.dst v):=by
 refine ⟨by rw [put_defers];exact hb.1,by rw [put_size];exact hb.2.1,fun d hd=>?_⟩
 rw [put_off]
 ·exact hb.2.2 d hd
 ·have q := Array.all_eq_true_iff_forall_mem.1 hd o (Array.mem_of_getElem? ho)
  simpa using q
end
end Go.Proofs.YtmmbkkfjiaoeiaaGreat
namespace Go.Proofs.YtmmbkkfjiaoeiaaGreat
open Go Go.RowKit
section
variable {P : Program} {ops : Array Oper} {Q : Exit → Act → World → Prop} {a0 : Act}
theorem region_callA {id:Nat} {w:World} {draw:Bool} (k:Nat) (o o2:Oper) (F:Nat→Fact) (hm:P.follows .mixedOrders=true) (hT:textTail .any draw ops a0.tmps.size k=true) (hk:ops.toList.drop k=[o,o2]) (ho:ops[k]?=some o) (ho2:ops[k+1]?=some o2) (dd d2:Nat) (hdd:o.dst=some dd) (hd2:o2.dst=some d2) (hop2:o2.op = .assign (.tmp dd)) (s1:dd < a0.tmps.size) (s2:d2 < a0.tmps.size)
  (steps:∀ i,i < k→StepOk P .any ops Q F a0 w i)
  (n:FuncId) (args:Array Operand) (ts:Array TypeId) (hop:o.op = .call { callee := .value (.func n),args:=args,argTypes:=ts }) (he:enters P n=true)
  (fin:∀ a w',Based ops a0 a→Below w.heap.size w w'→(∀ i d,decide (i < k)=true→writes ops i d=true→(F i).p (a.tmps.getD d undef) w') →
   Calls P n (args.toList.map a.eval).toArray w' fun e w''=>∃ v,e = .returned v∧∀ vs:Nat→Value,vs d2=v→Q .normal (puts vs a0 ops.toList) w''):(Code.region id ops draw).wp P Q a0 w:=by
 refine region_tail k F hm hT steps [] (by simp) (by simp) fun a w' hb hw hf _=>?_
 rw [hk]
 show o.wp P a w' (fun a' w''=>o2.wp P a' w'' (fun a'' w3=>Q .normal a'' w3) Q) Q
 have hr:(execOp a.eval o).run P w' = .ok (.enter n (args.map a.eval)) w':=by
  have h0:(Deferred.ofValue (Value.func (Fn.func n) #[] #[]) (args.map a.eval)).run P w' = .ok { target := .fn (.func n) #[],args:=args.map a.eval } w':=by simp [Deferred.ofValue]
  simp [execOp,hop,resolve,invoke,Act.eval,h0,run_enter he]
 have e:args.map a.eval=(args.toList.map a.eval).toArray:=by cases args;simp
 unfold Oper.wp
 rw [hr,e,Oper.upon_enter]
 refine (fin a w' hb hw hf).mono ?_
 rintro e w'' ⟨v,rfl,hv⟩
 have hb1:=Based.put hb ho v
 have ea:(a.put o.dst v).eval (.tmp dd)=v:=by
  rw [hdd]
  exact put_at (by rw [hb.2.1];exact s1)
 have hr2:(execOp (a.put o.dst v).eval o2).run P w'' = .ok (.value v) w'':=by
  simp [execOp,hop2,ea]
 have hb2:=Based.put hb1 ho2 v
 have e2:((a.put o.dst v).put o2.dst v).tmps.getD d2 undef=v:=by
  rw [hd2]
  exact put_at (by rw [hb1.2.1];exact s2)
 show o2.upon P (a.put o.dst v) (fun a'' w3=>Q .normal a'' w3) Q ((execOp (a.put o.dst v).eval o2).run P w'')
 rw [hr2,Oper.upon_value]
 show Q .normal ((a.put o.dst v).put o2.dst v) w''
 obtain ⟨vs,hvs⟩:∃ vs:Nat→Value,∀ d,((a.put o.dst v).put o2.dst v).tmps.getD d undef=vs d:=⟨_,fun _=>rfl⟩
 rw [puts_tail hT rfl hb2 vs hvs]
 exact hv vs (by rw [← hvs,e2])
end
def BodP (w:World) (xs:List Int) (e:Ending) (w':World):Prop:=(∃ x,e = .returned x∧RowB w' w.heap.size x xs)∧Below w.heap.size w w'
structure LstR (w:World) (l:Lst):Prop where
 r:Rd w l.g l.a .u8 l.xs
 z:l.a=none→l.c=0
 m:l.xs.length≤1048576
 g:l.xs.length=0∨l.g < w.heap.size
theorem LstR.up {w w':World} {l:Lst} (h:LstR w l) (n:Below w.heap.size w w'):LstR w' l:=⟨h.r.up n,h.z,h.m,h.g.imp id fun x=>Nat.lt_of_lt_of_le x n.size⟩
theorem LstR.nil {w:World} {l:Lst} (h:LstR w l) (ha:l.a=none):l.xs=[]:=by
 by_cases h0:0 < l.xs.length
 ·obtain ⟨off, e, _⟩ := h.r h0
  rw [ha] at e
  simp at e
 ·exact List.eq_nil_of_length_eq_zero (by omega)
theorem endBody_any (w:World) (v:Value):Calls Tryz.prog 121 #[v] w (BodP w []):=by
 go_enter Tryz.func121,Tryz.ntmps121
 go_wp2
 go_ret
 exact ⟨⟨_,rfl,RowB.nil _ _⟩,Below.refl _ _⟩
theorem updateBody_any (w:World) (q:Nat) (n:Int) (h0:w.cell? ⟨q,0,none⟩=some (.int .i64 n)):Calls Tryz.prog 145 #[.pointer (some ⟨q,0,none⟩)] w (BodP w (bigL n 1)):=by
 have C:=hide (appendNumber_any w w.heap.size (.slice none 0 0) [] (RowB.nil w _) (Nat.le_refl _) n 1 (by decide) (by simp))
 go_enter Tryz.func145,Tryz.ntmps145
 go_wp2_with fail
 refine C.out.mono ?_
 rintro r w1 ⟨v1,rfl,R1,n1⟩
 go_wp2
 go_ret
 exact ⟨⟨_,rfl,R1⟩,n1⟩
set_option maxRecDepth 100000 in
set_option maxHeartbeats 1000000 in
theorem cloneB_any (w:World) (l:Lst) (h:LstR w l):Calls Tryz.prog 140 #[.slice l.a l.xs.length l.c] w (BodP w l.xs):=by
  obtain ⟨i0,hi,hz0,hz1,hz2⟩:=info_parts Tryz.info5
  cases ha:l.a with
  | none =>
    rw [h.nil ha,h.z ha]
    have b0:∀ W,(binOp BinOp.eql 22 (.slice none 0 0) (.slice none 0 0)).run Tryz.prog W = .ok (.bool true) W:=fun W=>by kernel_rfl
    go_enter Tryz.func140,Tryz.ntmps140
    go_wp2
    go_ret
    exact ⟨⟨_,rfl,RowB.nil _ _⟩,Below.refl _ _⟩
  | some ad =>
    have n0:Below w.heap.size w (w.alloc (.cells #[] 5)):=(Below.refl _ _).alloc (Nat.le_refl _) _
    have r:=h.r.up n0
    have m:=h.m
    rw [ha] at r
    obtain ⟨v1,w1,hap,R1,n1⟩:=append_any (P:=Tryz.prog) (w.alloc (.cells #[] 5)) 22 i0 Tryz.underlying22 hi hz0 hz1 hz2 w.heap.size w.heap.size _ _ (RowB.lit0 w) l.g (some ad) l.c l.xs r (by simp) (by simp;omega) (Nat.le_refl _) n0.size
    have N1:=n0.trans n1
    rw [List.nil_append] at R1
    have b0:∀ W,(binOp BinOp.eql 22 (.slice (some ad) l.xs.length l.c) (.slice none 0 0)).run Tryz.prog W = .ok (.bool false) W:=fun W=>by kernel_rfl
    clear n0 n1 r m h
    go_enter Tryz.func140,Tryz.ntmps140
    go_wp2_with (at_builtin;refine Lib.wpList_append_run _ rfl _ _ 22 22 rfl _ _ rfl rfl _ _ hap ?_)
    go_ret
    exact ⟨⟨_,rfl,R1⟩,N1⟩
theorem proofBody_any (w:World) (q:Nat) (l:Lst) (h:LstR w l) (h0:w.cell? ⟨q,0,none⟩=some (.slice l.a l.xs.length l.c)):Calls Tryz.prog 136 #[.pointer (some ⟨q,0,none⟩)] w (BodP w l.xs):=by
 have C:=hide (cloneB_any w l h)
 clear h
 go_enter Tryz.func136,Tryz.ntmps136
 go_wp2_with fail
 refine C.out.mono ?_
 rintro r w1 ⟨⟨v1,rfl,R1⟩,n1⟩
 go_wp2
 go_ret
 exact ⟨⟨_,rfl,R1⟩,n1⟩
theorem finishedBody_any (w:World) (q:Nat) (l:Lst) (h:LstR w l) (h0:w.cell? ⟨q,0,none⟩=some (.slice l.a l.xs.length l.c)):Calls Tryz.prog 141 #[.pointer (some ⟨q,0,none⟩)] w (BodP w l.xs):=by
 have C:=hide (cloneB_any w l h)
 clear h
 go_enter Tryz.func141,Tryz.ntmps141
 go_wp2_with fail
 refine C.out.mono ?_
 rintro r w1 ⟨⟨v1,rfl,R1⟩,n1⟩
 go_wp2
 go_ret
 exact ⟨⟨_,rfl,R1⟩,n1⟩
end Go.Proofs.YtmmbkkfjiaoeiaaGreat
namespace Go.Proofs.YtmmbkkfjiaoeiaaGreat
open Go Go.RowKit
theorem cellq {w w':World} (n:Below w.heap.size w w') {q i:Nat} {x:Value} (h:w.cell? ⟨q,i,none⟩=some x):w'.cell? ⟨q,i,none⟩=some x :=
 (World.cell?_of_block (a:=⟨q,i,none⟩) (n.block q (block_lt_of_cell h))).trans h
set_option maxRecDepth 100000 in
set_option maxHeartbeats 1000000 in
theorem answerBody_any (w:World) (q:Nat) (v:Int) (l1 l2:Lst) (rs:Bool) (h0:w.cell? ⟨q,0,none⟩=some (.int .i64 v)) (h1:w.cell? ⟨q,1,none⟩=some (.slice l1.a l1.xs.length l1.c)) (h2:w.cell? ⟨q,2,none⟩=some (.slice l2.a l2.xs.length l2.c)) (h3:w.cell? ⟨q,3,none⟩=some (.bool rs)) (H1:LstR w l1) (H2:LstR w l2) :
  Calls Tryz.prog 114 #[.pointer (some ⟨q,0,none⟩)] w (BodP w (fpL v l1.xs l2.xs ++ [if rs=true then 1 else 0])):=by
 obtain ⟨i0,hi,hz0,hz1,hz2⟩:=info_parts Tryz.info5
 have C:=hide (firstBody_any w q v l1 l2 h0 h1 h2 H1.r H2.r H1.z H2.z H1.m H2.m)
 have lf:=fpL_len v l1.xs l2.xs
 have m1:=H1.m
 have m2:=H2.m
 have lt:(fpL v l1.xs l2.xs).length≤4194304:=by omega
 clear h0 h1 h2 H1 H2 lf m1 m2
 generalize fpL v l1.xs l2.xs=fs at *
 cases rs
 ·go_enter Tryz.func114, Tryz.ntmps114
  go_wp2_with fail
  refine C.out.mono ?_
  rintro r w1 ⟨⟨v1,rfl,R1⟩,n1⟩
  have n2:Below w1.heap.size w1 (w1.alloc (.cells #[.int .u8 0] 5)):=(Below.refl _ _).alloc (Nat.le_refl _) _
  obtain ⟨v3,w3,hap3,R3,n3⟩:=append_any (P:=Tryz.prog) (w1.alloc (.cells #[.int .u8 0] 5)) 22 i0 Tryz.underlying22 hi hz0 hz1 hz2 w.heap.size w.heap.size _ _ (R1.up n2) _ _ 1 [0] (blk_lit1 w1 .u8 5 0).own0.rd (by simp) (by simp;omega) (Nat.le_refl _) (nxt n1 n2).size
  have N3:=(nxt n1 n2).trans n3
  clear n1 n2 n3 R1 C
  go_wp2_with (at_builtin;refine Lib.wpList_append_run _ rfl _ _ 22 22 rfl _ _ rfl rfl _ _ hap3 ?_)
  go_ret
  exact ⟨⟨_,rfl,R3⟩,N3⟩
 ·go_enter Tryz.func114, Tryz.ntmps114
  go_wp2_with fail
  refine C.out.mono ?_
  rintro r w1 ⟨⟨v1,rfl,R1⟩,n1⟩
  have n2:Below w1.heap.size w1 (w1.alloc (.cells #[.int .u8 1] 5)):=(Below.refl _ _).alloc (Nat.le_refl _) _
  obtain ⟨v3,w3,hap3,R3,n3⟩:=append_any (P:=Tryz.prog) (w1.alloc (.cells #[.int .u8 1] 5)) 22 i0 Tryz.underlying22 hi hz0 hz1 hz2 w.heap.size w.heap.size _ _ (R1.up n2) _ _ 1 [1] (blk_lit1 w1 .u8 5 1).own0.rd (by simp) (by simp;omega) (Nat.le_refl _) (nxt n1 n2).size
  have N3:=(nxt n1 n2).trans n3
  clear n1 n2 n3 R1 C
  go_wp2_with (at_builtin;refine Lib.wpList_append_run _ rfl _ _ 22 22 rfl _ _ rfl rfl _ _ hap3 ?_)
  go_ret
  exact ⟨⟨_,rfl,R3⟩,N3⟩
def tkL (ag ea:Int) (r t:List Int):List Int:=bigL ag 4 ++ bigL ea 4 ++ r ++ loL t
set_option maxHeartbeats 1000000 in
theorem ticketBody_any (w:World) (q:Nat) (ag ea:Int) (l1 l2:Lst) (h0:w.cell? ⟨q,0,none⟩=some (.int .i64 ag)) (h1:w.cell? ⟨q,1,none⟩=some (.int .i64 ea)) (h2:w.cell? ⟨q,2,none⟩=some (.slice l1.a l1.xs.length l1.c)) (h3:w.cell? ⟨q,3,none⟩=some (.slice l2.a l2.xs.length l2.c)) (H1:LstR w l1) (H2:LstR w l2) :
  Calls Tryz.prog 117 #[.pointer (some ⟨q,0,none⟩)] w (BodP w (tkL ag ea l1.xs l2.xs)):=by
 obtain ⟨i0,hi,hz0,hz1,hz2⟩:=info_parts Tryz.info5
 have C:=hide (appendNumber_any w w.heap.size (.slice none 0 0) [] (RowB.nil w _) (Nat.le_refl _) ag 4 (by decide) (by simp))
 go_enter Tryz.func117,Tryz.ntmps117
 go_wp2_with fail
 refine C.out.mono ?_
 rintro r w1 ⟨v1,rfl,R1,n1⟩
 rw [List.nil_append] at R1
 have k1:=cellq n1 h1
 have b4:=bigL_len ag 4
 have C2:=hide (appendNumber_any w1 w.heap.size v1 _ R1 n1.size ea 4 (by decide) (by rw [b4];decide))
 clear C h0
 go_wp2_with fail
 refine C2.out.mono ?_
 rintro r w2 ⟨v2,rfl,R2,n2⟩
 have N2:=n1.trans n2
 have k2:=cellq N2 h2
 have b5:=bigL_len ea 4
 have m1:=H1.m
 obtain ⟨v3,w3,hap3,R3,n3⟩:=append_any (P:=Tryz.prog) w2 22 i0 Tryz.underlying22 hi hz0 hz1 hz2 w.heap.size w.heap.size _ _ R2 l1.g l1.a l1.c l1.xs (H1.up N2).r H1.z (by rw [List.length_append];omega) (Nat.le_refl _) N2.size
 have N3:=N2.trans n3
 have k3:=cellq N3 h3
 have C4:=hide (appendLong_any w3 w.heap.size v3 _ R3 N3.size l2.g l2.a l2.c l2.xs (H2.up N3).r H2.z H2.g (by rw [List.length_append,List.length_append];omega) H2.m)
 clear C2 R1 R2 R3 n1 n2 n3 N2 h1 h2 h3 k1 H1 H2 b4 b5 m1
 go_wp2_with (at_builtin;refine Lib.wpList_append_run _ rfl _ _ 22 22 rfl _ _ rfl rfl _ _ hap3 ?_)
 refine C4.out.mono ?_
 rintro r w4 ⟨v4,rfl,R4,n4⟩
 have N4:=N3.trans n4
 clear C4 n4 N3 hap3 k2 k3
 go_wp2
 go_ret
 exact ⟨⟨_,rfl,R4⟩,N4⟩
structure TxsR (w:World) (g:Nat) (a:Option Addr) (ls:List (List UInt8)):Prop where
 r:RdT w g a ls
 n:ls.length≤8
 z:∀ l ∈ ls,l.length≤1048576
 g:ls.length=0∨g < w.heap.size
theorem TxsR.up {w w':World} {g:Nat} {a:Option Addr} {ls:List (List UInt8)} (h:TxsR w g a ls) (n:Below w.heap.size w w'):TxsR w' g a ls:=⟨h.r.up n,h.n,h.z,h.g.imp id fun x=>Nat.lt_of_lt_of_le x n.size⟩
theorem lsL_len (ls:List (List UInt8)) (h:ls.length≤8) (hz:∀ l ∈ ls,l.length≤1048576):(lsL ls).length≤8388617:=by
 have:=sh_sum ls 1048576 hz ls.length
 rw [List.take_of_length_le (by simp)] at this
 unfold lsL
 rw [List.length_append]
 have:ls.length*(1048576+1)≤8*(1048576+1):=Nat.mul_le_mul_right _ h
 simp only [List.length_cons,List.length_nil]
 omega
set_option maxHeartbeats 4000000 in
theorem extrasBody_any (w:World) (q:Nat) (g:Nat) (a:Option Addr) (c:Nat) (ls:List (List UInt8)) (ea:Int) (h0:w.cell? ⟨q,0,none⟩=some (.slice a ls.length c)) (h1:w.cell? ⟨q,1,none⟩=some (.int .i64 ea)) (H:TxsR w g a ls) :
  Calls Tryz.prog 125 #[.pointer (some ⟨q,0,none⟩)] w (BodP w (lsL ls ++ bigL ea 1)):=by
 have ll:=lsL_len ls H.n H.z
 go_enter Tryz.func125,Tryz.ntmps125
 go_upto_region 1 with fail
 refine region_callA 9 _ _ (fun i=>[Fact.eq (.pointer (some ⟨q,0,none⟩)),Fact.eq (.pointer (some ⟨q,0,none⟩)),Fact.eq (.pointer (some ⟨q,0,none⟩)),Fact.eq (.slice a ls.length c),RBf w.heap.size (lsL ls),Fact.eq (.pointer (some ⟨q,0,none⟩)),Fact.eq (.pointer (some ⟨q,0,none⟩)),Fact.eq (.pointer (some ⟨q,1,none⟩)),Fact.eq (.int .i64 ea)].getD i Fact.no) (by kernel_rfl) (by kernel_rfl) rfl rfl rfl 12 2 rfl rfl rfl (by show (12:Nat) < 13;decide) (by show (2:Nat) < 13;decide) ?_ 17 _ _ rfl (by kernel_rfl) ?_
 ·intro i hi
  obtain rfl | rfl | rfl | rfl | rfl | rfl | rfl | rfl | rfl:i=0∨i=1∨i=2∨i=3∨i=4∨i=5∨i=6∨i=7∨i=8:=by omega
  ·refine step_pure rfl fun A ww hb hw hf => ?_
   have e0:A.tmps[0]?.getD undef = .pointer (some ⟨q,0,none⟩):=gdv (hb.2.2 0 (by kernel_rfl))
   exact ⟨.pointer (some ⟨q,0,none⟩),by simp [go_sem,e0],rfl⟩
  ·refine step_pure rfl fun A ww hb hw hf => ?_
   have e0:A.tmps[3]?.getD undef = .pointer (some ⟨q,0,none⟩):=gdv (hf 0 3 (by kernel_rfl))
   exact ⟨.pointer (some ⟨q,0,none⟩),by simp [go_sem,e0],rfl⟩
  ·refine step_pure rfl fun A ww hb hw hf => ?_
   have e0:A.tmps[4]?.getD undef = .pointer (some ⟨q,0,none⟩):=gdv (hf 1 4 (by kernel_rfl))
   exact ⟨.pointer (some ⟨q,0,none⟩),by simp [go_sem,e0],rfl⟩
  ·refine step_pure rfl fun A ww hb hw hf => ?_
   have e0:A.tmps[5]?.getD undef = .pointer (some ⟨q,0,none⟩):=gdv (hf 2 5 (by kernel_rfl))
   have hc:ww.cell? ⟨q,0,none⟩=some (.slice a ls.length c):=cellq hw h0
   exact ⟨.slice a ls.length c,by simp [go_sem,e0,hc],rfl⟩
  ·refine step_callv rfl 93 _ _ rfl (by kernel_rfl) fun A ww hb hw hf => ?_
   have e6:A.tmps.getD 6 undef = .slice a ls.length c:=hf 3 6 (by kernel_rfl)
   show Calls Tryz.prog 93 #[.slice none 0 0,A.tmps.getD 6 undef] ww _
   rw [e6]
   refine (appendShorts_any ww ww.heap.size (.slice none 0 0) [] (RowB.nil ww _) (Nat.le_refl _) g a c ls (H.up hw).r (H.up hw).g (by simp) H.n H.z).mono ?_
   rintro r w' ⟨x,rfl,R,n⟩
   exact ⟨x,rfl,n,R.base hw.size⟩
  ·refine step_pure rfl fun A ww hb hw hf => ?_
   have e0:A.tmps[0]?.getD undef = .pointer (some ⟨q,0,none⟩):=gdv (hb.2.2 0 (by kernel_rfl))
   exact ⟨.pointer (some ⟨q,0,none⟩),by simp [go_sem,e0],rfl⟩
  ·refine step_pure rfl fun A ww hb hw hf => ?_
   have e0:A.tmps[8]?.getD undef = .pointer (some ⟨q,0,none⟩):=gdv (hf 5 8 (by kernel_rfl))
   exact ⟨.pointer (some ⟨q,0,none⟩),by simp [go_sem,e0],rfl⟩
  ·refine step_pure rfl fun A ww hb hw hf => ?_
   have e0:A.tmps[9]?.getD undef = .pointer (some ⟨q,0,none⟩):=gdv (hf 6 9 (by kernel_rfl))
   exact ⟨.pointer (some ⟨q,1,none⟩),by simp [go_sem,e0],rfl⟩
  ·refine step_pure rfl fun A ww hb hw hf => ?_
   have e0:A.tmps[10]?.getD undef = .pointer (some ⟨q,1,none⟩):=gdv (hf 7 10 (by kernel_rfl))
   have hc:ww.cell? ⟨q,1,none⟩=some (.int .i64 ea):=cellq hw h1
   exact ⟨.int .i64 ea,by simp [go_sem,e0,hc],rfl⟩
 intro A W hb hw hF
 have e7:RowB W w.heap.size (A.tmps.getD 7 undef) (lsL ls):=hF 4 7 (by kernel_rfl) (by kernel_rfl)
 have e11:A.tmps.getD 11 undef = .int .i64 ea:=hF 8 11 (by kernel_rfl) (by kernel_rfl)
 show Calls Tryz.prog 17 #[A.tmps.getD 7 undef,A.tmps.getD 11 undef,.int .i64 1] W _
 rw [e11]
 refine (appendNumber_any W w.heap.size _ (lsL ls) e7 hw.size ea 1 (by decide) (by omega)).mono ?_
 rintro r w' ⟨x,rfl,R,n⟩
 refine ⟨x,rfl,fun vs e2=>?_⟩
 have N:=hw.trans n
 clear hb hF h0 h1 H e7 e11 n hw
 simp only [puts,e2,Act.put,List.setIfInBounds_toArray,List.set_cons_succ,List.set_cons_zero]
 go_wp2
 go_ret
 exact ⟨⟨_,rfl,R⟩,N⟩
end Go.Proofs.YtmmbkkfjiaoeiaaGreat
