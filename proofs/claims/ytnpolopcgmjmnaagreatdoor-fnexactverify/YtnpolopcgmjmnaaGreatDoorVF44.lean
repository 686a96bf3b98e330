import Derived.Test.YtnpolopcgmjmnaaGreatDoorVF43
import Derived.BigFrame
namespace Go.Proofs.YtnpolopcgmjmnaaGreatDoor
set_option maxRecDepth 100000
open Go Go.RowKit
section
variable {ops : Array Oper} {Q : Exit → Act → World → Prop} {md : Region.Mode} {F : Nat → Fact} {a0 : Act} {w0 : World} {i : Nat} {o : Oper} {ts : Array TypeId}
end
end Go.Proofs.YtnpolopcgmjmnaaGreatDoor
namespace Go.Proofs.YtnpolopcgmjmnaaGreatDoor
set_option maxRecDepth 100000
open Go Go.RowKit
def RT (A:Int):Fact:=⟨fun v _=>∃ t,v = .tuple #[.bool (rootB A),ag16 t]∧L16 t∧s16 t 16 % PP=rootV A % PP,fun _ h=>h⟩
theorem en_root:enters Tryz.prog 57=true:=by kernel_rfl
section
variable {ops : Array Oper} {Q : Exit → Act → World → Prop} {md : Region.Mode} {F : Nat → Fact} {a0 : Act} {w0 : World} {i : Nat} {o : Oper} {ts : Array TypeId}
theorem step_root (hi:ops[i]?=some o) (p j:Nat) (A:Int) (hop:o.op = .call { callee := .value (.func 57),args := #[.tmp p],argTypes:=ts })
  (hj:waits md ops i j p=true) (hFj:F j=EL A) (hFi:F i=RT A):StepOk Tryz.prog md ops Q F a0 w0 i:=by
 refine step_call hi _ _ ts hop en_root fun a w _ _ hF=>?_
 have ea:=hF j p hj
 rw [hFj] at ea
 obtain ⟨t,e1,L1,V1⟩:=ea
 show Calls Tryz.prog 57 #[a.tmps.getD p undef] w _
 rw [e1]
 refine (l2RootF_any w t L1 A V1).mono ?_
 rintro r w' ⟨u,rfl,L,V,hn⟩
 rw [hFi]
 exact ⟨_,rfl,hn,u,rfl,L,V⟩
theorem step_ext0 {P:Program} (hi:ops[i]?=some o) (p j:Nat) (A:Int) (hop:o.op = .extract (.tmp p) 0) (hj:waits md ops i j p=true) (hFj:F j=RT A) (hFi:F i=Fact.eq (.bool (rootB A))):StepOk P md ops Q F a0 w0 i:=by
 refine step_pure hi fun a w _ _ hf=>⟨.bool (rootB A),?_,by rw [hFi];exact rfl⟩
 have e:=hf j p hj
 rw [hFj] at e
 obtain ⟨t,e,_⟩:=e
 have e':a.eval (.tmp p) = .tuple #[.bool (rootB A),ag16 t]:=e
 simp only [execOp,hop,e']
 rfl
theorem step_ext1 {P:Program} (hi:ops[i]?=some o) (p j:Nat) (A:Int) (hop:o.op = .extract (.tmp p) 1) (hj:waits md ops i j p=true) (hFj:F j=RT A) (hFi:F i=EL (rootV A)):StepOk P md ops Q F a0 w0 i:=by
 refine step_pure hi fun a w _ _ hf=>?_
 have e:=hf j p hj
 rw [hFj] at e
 obtain ⟨t,e,L,V⟩:=e
 have e':a.eval (.tmp p) = .tuple #[.bool (rootB A),ag16 t]:=e
 refine ⟨ag16 t,?_,by rw [hFi];exact ⟨t,rfl,L,V⟩⟩
 simp only [execOp,hop,e']
 rfl
end
section
variable {ops : Array Oper} {Q : Exit → Act → World → Prop} {a0 : Act} {w : World} {id : Nat} {draw : Bool}
theorem region_new16F (k jA jV pA pV:Nat) (o:Oper) (F:Nat→Fact) (A:Int) (hT:textOk .any ops a0.tmps.size k=true) (hk:ops[k]?=some o) (hd:o.dst=none) (hop:o.op = .store 36 (.tmp pA) (.tmp pV))
  (wA:writes ops jA pA=true) (wV:writes ops jV pV=true) (FA:F jA=NB w 16) (FV:F jV=EL A) (steps:∀ i,i < k→StepOk Tryz.prog .any ops Q F a0 w i)
  (fin:∀ (vs:Nat→Value) (q:Nat) (W:World),vs pA = .pointer (some ⟨q,0,none⟩)→w.heap.size≤q→Below w.heap.size w W→Elt W q 0 A→W.there q 0 16→(∀ i d,writes ops i d=true→∃ Wp,(F i).p (vs d) Wp)→Q .normal (puts vs a0 ops.toList) W) :
  (Code.region id ops draw).wp Tryz.prog Q a0 w:=by
 refine region_store k o F (by kernel_rfl) hT hk hd steps fun a W hb hw hF=>?_
 have h1:=hF jA pA wA
 have h2:=hF jV pV wV
 rw [FA] at h1
 rw [FV] at h2
 obtain ⟨_,q,eq,th,hq⟩:=h1
 obtain ⟨t,ev,L,V⟩:=h2
 refine wp_store_mid 36 (.tmp pA) (.tmp pV) hop q 0 (a16 t) eq ev (by rw [a16_size];exact th) (by rw [a16_size];exact i50) (a16_one t) ?_
 obtain ⟨vs,hvs⟩:∃ vs:Nat→Value,∀ d,a.tmps.getD d undef=vs d:=⟨_,fun _=>rfl⟩
 rw [hd]
 show Q .normal a _
 rw [puts_of hT rfl hb vs hvs]
 exact fin vs q _ ((hvs pA).symm.trans eq) hq (below_setCells hq _ _ _ hw) (set_elt th L V) (World.there_setCells th _ _ _) (fun i d h=>⟨W,by rw [← hvs];exact hF i d h⟩)
end
end Go.Proofs.YtnpolopcgmjmnaaGreatDoor
namespace Go.Proofs.YtnpolopcgmjmnaaGreatDoor
set_option maxRecDepth 100000
open Go Go.RowKit
theorem bytes_5 (v:Int) (n:Nat):Byt (fill (byt v) n):=fun i=>by
 by_cases hi:i < n
 ·rw [fill_get _ _ _ hi];unfold byt;omega
 ·rw [List.getD_eq_getElem?_getD,List.getElem?_eq_none (by rw [fill_len];omega)];simp
section
variable {ops : Array Oper} {Q : Exit → Act → World → Prop} {md : Region.Mode} {F : Nat → Fact} {a0 : Act} {w0 : World} {i : Nat} {o : Oper} {ts : Array TypeId}
end
end Go.Proofs.YtnpolopcgmjmnaaGreatDoor
namespace Go.Proofs.YtnpolopcgmjmnaaGreatDoor
set_option maxRecDepth 100000
open Go.RowKit
end Go.Proofs.YtnpolopcgmjmnaaGreatDoor
namespace Go.Proofs.YtnpolopcgmjmnaaGreatDoor
set_option maxRecDepth 100000
open Go Go.RowKit
def InS (v t:Int) (ys:List Int):Prop:=(ys=[]∧t=v)∨(ys=[v % 256]∧t=v / 256∧0 < v)∨(ys=[v % 256,v / 256]∧t=0∧256≤v)
theorem InS.go {v t:Int} {ys:List Int} (h:InS v t ys) (h0:0 < t) (hv:v < 65536):InS v (t / 256) (ys ++ [t % 256]):=by
 rcases h with ⟨rfl,rfl⟩ | ⟨rfl,rfl,h1⟩ | ⟨rfl,rfl,h1⟩
 ·exact Or.inr (Or.inl ⟨rfl,rfl,h0⟩)
 ·refine Or.inr (Or.inr ⟨?_, by omega, by omega⟩)
  rw [show v / 256 % 256=v / 256 by omega]
  rfl
 ·omega
section
variable {ops : Array Oper} {Q : Exit → Act → World → Prop} {md : Region.Mode} {F : Nat → Fact} {a0 : Act} {w0 : World} {i : Nat} {o : Oper} {ts : Array TypeId}
end
end Go.Proofs.YtnpolopcgmjmnaaGreatDoor
namespace Go.Proofs.YtnpolopcgmjmnaaGreatDoor
set_option maxRecDepth 100000
open Go Go.RowKit
theorem zero_bytes (V:Int):bval (fill (byt (V % PP)) 32)=0↔V % PP=0:=by
 constructor
 ·intro hb
  have h0:=bval_zero_all (bytes_L (V % PP) 32) hb
  have n0:=num_modS V
  have:num (fill (byt (V % PP)) 32)=0:=by
   unfold num
   rw [fill_len]
   exact lsum_all0 32 (fun j _=>h0 j)
  omega
 ·intro h
  rw [h]
  decide +kernel
set_option maxHeartbeats 2000000 in
theorem l2IsZero_any (w:World) (f:Nat→Int) (hf:L16 f):Calls Tryz.prog 58 #[ag16 f] w fun r w'=>r = .returned (.bool (decide (s16 f 16 % PP=0)))∧Below w.heap.size w w':=by
 show Calls Tryz.prog 58 #[.agg (a16 f)] w _
 have n1:Below w.heap.size w (w.alloc (.cells (a16 f) 36)):=(Below.refl _ _).alloc (Nat.le_refl _) _
 have B1:Blk (w.alloc (.cells (a16 f) 36)) w.heap.size .i64 (ls16 f):=blk16 w 36 f
 have BY:=fun W=>l2Bytes_any W f hf
 have Z:=zero_bytes (s16 f 16)
 go_enter Tryz.func58,Tryz.ntmps58
 go_upto_region 1 with fail
 generalize w.alloc (.cells (a16 f) 36)=wa at *
 obtain ⟨t,hF⟩:=B1
 go_wp2_with (refine wpList_load_row rfl 36 (.tmp 1) rfl w.heap.size rfl t (a16 f) (0,0) (.array 16 2) hF Go.Proofs.YtnpolopcgmjmnaaGreatDoor.u50 rfl (by rw [a16_size];exact i50) ?_)
 refine (BY wa).mono ?_
 rintro r w2 ⟨⟨a2,c2,g2,rfl,o2,p2,q2,r2⟩,n2⟩
 have N2:=nxt n1 n2
 have TM:=hide (l1Trim_any w2 g2 a2 c2 _ o2.rd (bytes_L _ _) p2 q2 (by rw [fill_len];decide))
 clear BY n1 n2 hF o2 p2 q2 r2
 go_wp2_with fail
 refine TM.out.mono ?_
 rintro r w3 ⟨zs,CZ,lz,⟨a3,c3,g3,rfl,o3,p3,q3,r3⟩,n3⟩
 have N3:=nxt N2 n3
 clear TM N2 n3 o3 p3 q3 r3
 by_cases hz:zs.length=0
 ·have tz : ((zs.length : Int) == 0) = true := by simp [hz]
  have bz:s16 f 16 % PP=0:=by
   refine Z.1 ?_
   have:zs=[]:=List.eq_nil_of_length_eq_zero hz
   rw [← CZ.2.1,this]
   rfl
  have K:=hide (decide_eq_true bz)
  clear hz bz CZ Z
  go_wp2
  go_ret
  exact ⟨by rw [K.out];rfl,N3⟩
 ·have tz : ((zs.length : Int) == 0) = false := by simp; intro h; exact hz (by rw [h]; rfl)
  have bz:¬ s16 f 16 % PP=0:=fun h=>canon_pos' CZ (by omega) (Z.2 h)
  have K:=hide (decide_eq_false bz)
  clear hz bz CZ Z
  go_wp2
  go_ret
  exact ⟨by rw [K.out];rfl,N3⟩
end Go.Proofs.YtnpolopcgmjmnaaGreatDoor
namespace Go.Proofs.YtnpolopcgmjmnaaGreatDoor
set_option maxRecDepth 100000
open Go Go.RowKit
theorem wpList_load_want {P:Program} {ops:Array Oper} {rest:List Oper} {op:Oper} {a:Act} {w:World} {Q:Exit→Act→World→Prop} (hw:Region.wanted op (yielded ops a.tmps)=true) (ty:TypeId) (x:Operand) (ho:op.op = .load ty x)
  (b o:Nat) (hx:a.eval x = .pointer (some ⟨b,o,none⟩)) (cs:List Value) (d:TypeDesc) (hc:w.rangeAt b o cs)
  (hu:P.underlying ty=some d) (hd:d.isRow=true) (hi:(P.info? ty).map (·.size)=some cs.length)
  (h:wpList P ops Q rest (a.put op.dst (.agg cs.toArray)) w):wpList P ops Q (op :: rest) a w :=
 BigFrame.wpList_want hw fun _ hK=>wp_load_mid ty x ho b o hx cs d hc hu hd hi (hK _ _ h)
def liB (A:Int) (odd:Bool):Bool:=rootB (liftZ A) && !(odd && decide (rootV (liftZ A) % PP=0))
def liX (A:Int) (odd:Bool):List Int:=if liB A odd=true then fill (byt ((if odd=true then 0 - rootV (liftZ A) else rootV (liftZ A)) % PP)) 32 else []
def liY (A:Int) (odd:Bool):List Int:=if liB A odd=true then fill (byt (A % PP)) 32 else []
def NewLi (B:Nat) (w':World) (e:Ending) (b:Bool) (xs ys:List Int):Prop :=
 ∃ (a a':Option Addr) (c c' g g':Nat),e = .returned (.tuple #[.bool b,.agg #[.slice a xs.length c,.slice a' ys.length c']])∧Own w' g a .u8 xs∧Own w' g' a' .u8 ys∧B≤g∧B≤g'
theorem newLi_nil {B:Nat} {w:World}:NewLi B w (.returned (.tuple #[.bool false,.agg #[.slice none 0 0,.slice none 0 0]])) false [] []:=⟨none,none,0,0,B,B,rfl,Own.nil _ _ _ _,Own.nil _ _ _ _,Nat.le_refl _,Nat.le_refl _⟩
section
variable {ops : Array Oper} {Q : Exit → Act → World → Prop} {md : Region.Mode} {F : Nat → Fact} {a0 : Act} {w0 : World} {i : Nat} {o : Oper}
theorem step_konst {P:Program} (hi:ops[i]?=some o) {v:Value} (hop:o.op = .assign (.const v)) (hF:F i=Fact.eq v):StepOk P md ops Q F a0 w0 i :=
 step_pure hi fun a w _ _ _=>⟨v,by simp [execOp,hop,Act.eval],by rw [hF];exact rfl⟩
end
section
variable {ops : Array Oper} {Q : Exit → Act → World → Prop} {a0 : Act} {w : World} {id : Nat} {draw : Bool}
theorem region_putPF (k jV pD pV:Nat) (o:Oper) (F:Nat→Fact) (p:List Int→List Int→Prop) (q:Nat) (hT:textOk .any ops a0.tmps.size k=true) (hk:ops[k]?=some o) (hd:o.dst=none) (hop:o.op = .store 29 (.tmp pD) (.tmp pV))
  (hp:apart ops pD=true) (h0:a0.tmps.getD pD undef = .pointer (some ⟨q,0,none⟩)) (ht:w.there q 0 2)
  (wV:writes ops jV pV=true) (FV:F jV=PT w p) (steps:∀ i,i < k→StepOk Tryz.prog .any ops Q F a0 w i)
  (fin:∀ (vs:Nat→Value) (W W':World) (xs ys:List Int) (a a':Option Addr) (c c' g g':Nat),Below w.heap.size w W→ButQ q w W'→W'.rangeAt q 0 [.slice a xs.length c,.slice a' ys.length c']→Own W' g a .u8 xs→Own W' g' a' .u8 ys→w.heap.size≤g→w.heap.size≤g'→p xs ys→(∀ (w1:World) (B:Nat),Below B w1 W→B≤q→Below B w1 W')→(∀ i d,writes ops i d=true→∃ Wp,(F i).p (vs d) Wp)→Q .normal (puts vs a0 ops.toList) W') :
  (Code.region id ops draw).wp Tryz.prog Q a0 w:=by
 refine region_store k o F (by kernel_rfl) hT hk hd steps fun a W hb hw hF=>?_
 have h2:=hF jV pV wV
 rw [FV] at h2
 obtain ⟨xs,ys,b,b',c,c',g,g',ev,o1,o2,l1,l2,hpp⟩:=h2
 have th:=there_up (by omega) ht hw
 refine wp_store_mid 29 (.tmp pD) (.tmp pV) hop q 0 #[.slice b xs.length c,.slice b' ys.length c'] ((based_at hb pD hp).trans h0) ev th iP (by simp [Value.oneCell']) ?_
 obtain ⟨vs,hvs⟩:∃ vs:Nat→Value,∀ d,a.tmps.getD d undef=vs d:=⟨_,fun _=>rfl⟩
 rw [hd]
 show Q .normal a _
 rw [puts_of hT rfl hb vs hvs]
 have lq:=there_lt (by omega) ht
 refine fin vs W _ xs ys b b' c c' g g' hw (but_set hw _) (World.rangeAt_setCells_same W q 0 _ th) ?_ ?_ l1 l2 hpp (fun w1 B n hB=>below_setCells hB _ _ _ n) (fun i d h=>⟨W,by rw [← hvs];exact hF i d h⟩)
 ·exact fun h0=>o1.of_block (setCells_other (by omega) _ 0 W) h0
 ·exact fun h0=>o2.of_block (setCells_other (by omega) _ 0 W) h0
end
set_option maxHeartbeats 2000000 in
theorem l5Lift_any (w : World) (f : Nat → Int) (A : Int) (hf : L16 f ∧ s16 f 16 % PP = A % PP) (odd : Bool) :
    Calls Tryz.prog 30 #[ag16 f,.bool odd] w fun r w'=>NewLi w.heap.size w' r (liB A odd) (liX A odd) (liY A odd)∧Below w.heap.size w w':=by
  show Calls Tryz.prog 30 #[.agg (a16 f),.bool odd] w _
  have H1:=elt_new5 w 36 hf
  have m1:Below w.heap.size w (w.alloc (.cells (a16 f) 36)):=(Below.refl _ _).alloc (Nat.le_refl _) _
  have s1:(w.alloc (.cells (a16 f) 36)).heap.size=w.heap.size+1:=by simp
  obtain ⟨V1,hV1⟩:∃ V,V=a16 f:=⟨_,rfl⟩
  rw [← hV1] at H1 m1 s1 ⊢
  clear hV1 hf
  go_enter Tryz.func30,Tryz.ntmps30
  go_upto_region 1 with fail
  generalize w.alloc (.cells V1 36)=wa at *
  change Code.wp _ _ _ _ (wa.alloc pObj)
  have TR:=there_p wa
  have TZ:Two (wa.alloc pObj) wa.heap.size (.slice none 0 0) (.slice none 0 0):=Two.new wa (.slice none 0 0) (.slice none 0 0) 29
  have m2:Below wa.heap.size wa (wa.alloc pObj):=(Below.refl _ _).alloc (Nat.le_refl _) _
  rw [s1] at TR TZ
  have E2':=H1.up m2
  have N:=nxt m1 m2
  clear H1 m1 m2 s1
  generalize wa.alloc pObj=wr at *
  refine region_new16 4 3 2 6 11 _ (fun i=>[EL (A),EL (A),EL ((A)*(A)),NB wr 16].getD i Fact.no) ((A)*(A)) (by kernel_rfl) rfl rfl rfl (by kernel_rfl) (by kernel_rfl) rfl rfl ?_ ?_
  · intro i hi
    obtain rfl | rfl | rfl | rfl:i=0∨i=1∨i=2∨i=3:=by omega
    · exact step_el rfl 36 2 rfl Go.Proofs.YtnpolopcgmjmnaaGreatDoor.u50 i50 (by kernel_rfl) _ _ rfl _ E2' rfl
    · exact step_el rfl 36 2 rfl Go.Proofs.YtnpolopcgmjmnaaGreatDoor.u50 i50 (by kernel_rfl) _ _ rfl _ E2' rfl
    · exact step_mul rfl 9 10 0 1 _ _ rfl (by kernel_rfl) (by kernel_rfl) rfl rfl rfl
    · exact step_new16 rfl rfl rfl
  intro vs1 q6 W1 v6 l6 n E6 T6
  have y6:=there_lt (by omega) T6
  replace E2':=E2'.up n
  replace TR:=there_up (by omega) TR n
  replace TZ:=TZ.up n
  replace N:=nxt N n
  clear n T6
  simp only [puts,v6,Act.put,List.setIfInBounds_toArray,List.set_cons_succ,List.set_cons_zero]
  clear v6
  go_upto_region 2 with fail
  refine region_new16F 16 14 13 8 25 _ (fun i=>[EL ((A)*(A)),EL 1,EL (((A)*(A)) - (1)),EL dE,EL ((A)*(A)),EL ((dE)*((A)*(A))),EL 1,EL (((dE)*((A)*(A)))+(1)),EL (iv (((dE)*((A)*(A)))+(1))),EL ((((A)*(A)) - (1))*(iv (((dE)*((A)*(A)))+(1)))),RT ((((A)*(A)) - (1))*(iv (((dE)*((A)*(A)))+(1)))),RT ((((A)*(A)) - (1))*(iv (((dE)*((A)*(A)))+(1)))),Fact.eq (.bool (rootB ((((A)*(A)) - (1))*(iv (((dE)*((A)*(A)))+(1)))))),EL (rootV ((((A)*(A)) - (1))*(iv (((dE)*((A)*(A)))+(1))))),NB W1 16,Fact.eq (.bool (rootB ((((A)*(A)) - (1))*(iv (((dE)*((A)*(A)))+(1))))))].getD i Fact.no) (rootV ((((A)*(A)) - (1))*(iv (((dE)*((A)*(A)))+(1))))) (by kernel_rfl) rfl rfl rfl (by kernel_rfl) (by kernel_rfl) rfl rfl ?_ ?_
  · intro i hi
    obtain rfl | rfl | rfl | rfl | rfl | rfl | rfl | rfl | rfl | rfl | rfl | rfl | rfl | rfl | rfl | rfl:i=0∨i=1∨i=2∨i=3∨i=4∨i=5∨i=6∨i=7∨i=8∨i=9∨i=10∨i=11∨i=12∨i=13∨i=14∨i=15:=by omega
    · exact step_el rfl 36 6 rfl Go.Proofs.YtnpolopcgmjmnaaGreatDoor.u50 i50 (by kernel_rfl) _ _ rfl _ E6 rfl
    · exact step_small rfl 1 (by omega) rfl rfl
    · exact step_sub rfl 13 14 0 1 _ _ rfl (by kernel_rfl) (by kernel_rfl) rfl rfl rfl
    · exact step_d rfl rfl rfl
    · exact step_el rfl 36 6 rfl Go.Proofs.YtnpolopcgmjmnaaGreatDoor.u50 i50 (by kernel_rfl) _ _ rfl _ E6 rfl
    · exact step_mul rfl 16 17 3 4 _ _ rfl (by kernel_rfl) (by kernel_rfl) rfl rfl rfl
    · exact step_small rfl 1 (by omega) rfl rfl
    · exact step_add rfl 18 19 5 6 _ _ rfl (by kernel_rfl) (by kernel_rfl) rfl rfl rfl
    · exact step_inv rfl 20 7 _ rfl (by kernel_rfl) rfl rfl
    · exact step_mul rfl 15 21 2 8 _ _ rfl (by kernel_rfl) (by kernel_rfl) rfl rfl rfl
    · exact step_root rfl 22 9 _ rfl (by kernel_rfl) rfl rfl
    · exact step_move rfl 23 10 (by exact Or.inl rfl) (by kernel_rfl) rfl
    · exact step_ext0 rfl 12 11 _ rfl (by kernel_rfl) rfl rfl
    · exact step_ext1 rfl 12 11 _ rfl (by kernel_rfl) rfl rfl
    · exact step_new16 rfl rfl rfl
    · exact step_move rfl 24 12 (by exact Or.inr rfl) (by kernel_rfl) rfl
  intro vs2 q8 W2 v8 l8 n E8 T8 hF
  have v7':=hF 15 7 (by kernel_rfl)
  have zr:=there_lt (by omega) TR
  replace E2':=E2'.up n
  replace TR:=there_up (by omega) TR n
  replace TZ:=TZ.up n
  replace N:=nxt N n
  obtain ⟨_,v7⟩:=v7'
  clear n hF
  obtain ⟨Z,hZ⟩:∃ Z,Z=liftZ A:=⟨_,rfl⟩
  change vs2 7 = .bool (rootB (liftZ A)) at v7
  replace E8:Elt W2 q8 0 (rootV (liftZ A)):=E8
  rw [← hZ] at v7 E8
  have KB:Hid (liB A odd=(rootB Z && !(odd && decide (rootV Z % PP=0)))):=by show _=_;rw [hZ];rfl
  have KX0:Hid (liX A odd=if liB A odd=true then fill (byt ((if odd=true then 0 - rootV Z else rootV Z) % PP)) 32 else []):=by show _=_;rw [hZ];rfl
  have KY0:Hid (liY A odd=if liB A odd=true then fill (byt (A % PP)) 32 else []):=by show _=_;rfl
  clear hZ
  obtain ⟨V,hV⟩:∃ V,V=rootV Z:=⟨_,rfl⟩
  rw [← hV] at E8 KB KX0
  obtain ⟨rb,hrb⟩:∃ b,b=rootB Z:=⟨_,rfl⟩
  rw [← hrb] at v7 KB
  clear hV hrb
  simp only [puts,v8,v7,Act.put,List.setIfInBounds_toArray,List.set_cons_succ,List.set_cons_zero]
  clear v8 v7
  have gq:w.heap.size+1 < q8:=by omega
  clear l6 y6 l8 E6 zr
  cases rb with
  | false =>
    have KK:Hid (liB A odd=false):=by show _=_;rw [KB.out];rfl
    have KX:Hid (liX A odd=[]):=by show _=_;rw [KX0.out,if_neg (by rw [KK.out];simp)]
    have KY:Hid (liY A odd=[]):=by show _=_;rw [KY0.out,if_neg (by rw [KK.out];simp)]
    obtain ⟨y0,y1,f0,f1⟩:=TZ
    clear KB KX0 KY0 E2' E8 T8 TR
    go_wp2
    refine bodyPost_ret (v := .tuple #[.bool false,.agg #[.slice none 0 0,.slice none 0 0]]) (by simp [results,Tryz.results30,go_sem,y0,y1]) rfl ⟨by rw [KK.out,KX.out,KY.out];exact newLi_nil,?_⟩
    exact (N.setCell (by show w.heap.size≤w.heap.size+1;omega) _).setCell (by show w.heap.size≤w.heap.size+1;omega) _
  | true =>
    cases odd with
    | false =>
      have KK:Hid (liB A false=true):=by show _=_;rw [KB.out];rfl
      have KX:Hid (liX A false=fill (byt ((V) % PP)) 32):=by show _=_;rw [KX0.out,if_pos KK.out];rfl
      have KY:Hid (liY A false=fill (byt ((A) % PP)) 32):=by show _=_;rw [KY0.out,if_pos KK.out]
      clear KB KX0 KY0 TZ
      go_upto_region 7 with fail
      refine region_putPF 6 4 5 44 _ (fun i=>[EL (V),RN W2 (fun xs=>xs=fill (byt ((V) % PP)) 32),EL (A),RN W2 (fun xs=>xs=fill (byt ((A) % PP)) 32),PT W2 (fun xs ys=>xs=fill (byt ((V) % PP)) 32∧ys=fill (byt ((A) % PP)) 32),Fact.eq (.bool true)].getD i Fact.no) (fun xs ys=>xs=fill (byt ((V) % PP)) 32∧ys=fill (byt ((A) % PP)) 32) _ (by kernel_rfl) rfl rfl rfl (by kernel_rfl) rfl TR (by kernel_rfl) rfl ?_ ?_
      · intro i hi
        obtain rfl | rfl | rfl | rfl | rfl | rfl:i=0∨i=1∨i=2∨i=3∨i=4∨i=5:=by omega
        · exact step_el rfl 36 8 rfl Go.Proofs.YtnpolopcgmjmnaaGreatDoor.u50 i50 (by kernel_rfl) _ _ rfl _ E8 rfl
        · exact step_bytes rfl 40 0 _ rfl (by kernel_rfl) rfl rfl
        · exact step_el rfl 36 2 rfl Go.Proofs.YtnpolopcgmjmnaaGreatDoor.u50 i50 (by kernel_rfl) _ _ rfl _ E2' rfl
        · exact step_bytes rfl 42 2 _ rfl (by kernel_rfl) rfl rfl
        · exact step_bp rfl 41 43 1 3 _ _ rfl (by kernel_rfl) (by kernel_rfl) rfl rfl rfl
        · exact step_konst rfl rfl rfl
      rintro vt Wa Wb ps qs b1 b2 d1 d2 h1 h2 n bq rg o1 o2 l1 l2 ⟨rfl,rfl⟩ nb hF
      obtain ⟨_,v4⟩:=hF 5 4 (by kernel_rfl)
      clear hF
      change vt 4 = .bool true at v4
      have NS:=nb w w.heap.size (nxt N n) (by omega)
      simp only [puts,v4,Act.put,List.setIfInBounds_toArray,List.set_cons_succ,List.set_cons_zero]
      clear v4
      have z1:=N.size
      clear N n bq nb TR E2' E8
      rw [show fill (byt ((V) % PP)) 32=liX A false from KX.out.symm] at o1 rg
      rw [show fill (byt ((A) % PP)) 32=liY A false from KY.out.symm] at o2 rg
      clear KX KY
      go_wp2
      have k0:=rg 0 _ rfl
      have k1:=rg 1 _ rfl
      simp only [Nat.zero_add] at k0 k1
      refine bodyPost_ret (v := .tuple #[.bool true,.agg #[.slice b1 (liX A false).length d1,.slice b2 (liY A false).length d2]]) (by simp [results,Tryz.results30,go_sem,k0,k1]) rfl ⟨?_,NS⟩
      rw [KK.out]
      exact ⟨b1,b2,d1,d2,h1,h2,rfl,o1,o2,by omega,by omega⟩
    | true =>
      obtain ⟨t8,rg8,_,L8,V8⟩:=id E8
      have IZ:=hide (fun W=>l2IsZero_any W t8 L8)
      simp only [show ∀ f,ag16 f = .agg (a16 f) from fun _=>rfl] at IZ
      have LD:=hide rg8
      rw [V8] at IZ
      clear L8 V8 rg8
      by_cases hz:V % PP=0
      · have KK : Hid (liB A true = false) := by show _ = _; rw [KB.out, decide_eq_true hz]; rfl
        have KX:Hid (liX A true=[]):=by show _=_;rw [KX0.out,if_neg (by rw [KK.out];simp)]
        have KY:Hid (liY A true=[]):=by show _=_;rw [KY0.out,if_neg (by rw [KK.out];simp)]
        simp only [decide_eq_true hz] at IZ
        clear KB KX0 KY0 E2' E8 T8 TR hz
        go_wp2_with (refine wpList_load_want rfl 36 (.tmp 8) rfl q8 0 rfl (a16 t8).toList (.array 16 2) LD.out Go.Proofs.YtnpolopcgmjmnaaGreatDoor.u50 rfl (by rw [a16_len];exact i50) ?_)
        refine (IZ.out W2).mono ?_
        rintro r W3' ⟨rfl,n⟩
        replace N:=nxt N n
        obtain ⟨y0,y1,f0,f1⟩:=TZ.up n
        clear IZ LD n TZ
        go_wp2
        refine bodyPost_ret (v := .tuple #[.bool false,.agg #[.slice none 0 0,.slice none 0 0]]) (by simp [results,Tryz.results30,go_sem,y0,y1]) rfl ⟨by rw [KK.out,KX.out,KY.out];exact newLi_nil,?_⟩
        exact (N.setCell (by show w.heap.size≤w.heap.size+1;omega) _).setCell (by show w.heap.size≤w.heap.size+1;omega) _
      · have KK : Hid (liB A true = true) := by show _ = _; rw [KB.out, decide_eq_false hz]; rfl
        have KX:Hid (liX A true=fill (byt (((0) - (V)) % PP)) 32):=by show _=_;rw [KX0.out,if_pos KK.out];rfl
        have KY:Hid (liY A true=fill (byt ((A) % PP)) 32):=by show _=_;rw [KY0.out,if_pos KK.out]
        simp only [decide_eq_false hz] at IZ
        clear KB KX0 KY0 TZ hz
        go_wp2_with (refine wpList_load_want rfl 36 (.tmp 8) rfl q8 0 rfl (a16 t8).toList (.array 16 2) LD.out Go.Proofs.YtnpolopcgmjmnaaGreatDoor.u50 rfl (by rw [a16_len];exact i50) ?_)
        refine (IZ.out W2).mono ?_
        rintro r W5 ⟨rfl,n⟩
        replace E2':=E2'.up n
        replace E8:=E8.up n
        replace TR:=there_up (by omega) TR n
        replace T8:=there_up (by omega) T8 n
        replace N:=nxt N n
        clear IZ LD n
        go_upto_region 6 with fail
        refine region_put16 3 2 8 39 _ (fun i=>[EL 0,EL (V),EL ((0) - (V))].getD i Fact.no) ((0) - (V)) _ (by kernel_rfl) rfl rfl rfl (by kernel_rfl) rfl T8 (by kernel_rfl) rfl ?_ ?_
        · intro i hi
          obtain rfl | rfl | rfl:i=0∨i=1∨i=2:=by omega
          · exact step_small rfl 0 (by omega) rfl rfl
          · exact step_el rfl 36 8 rfl Go.Proofs.YtnpolopcgmjmnaaGreatDoor.u50 i50 (by kernel_rfl) _ _ rfl _ E8 rfl
          · exact step_sub rfl 37 38 0 1 _ _ rfl (by kernel_rfl) (by kernel_rfl) rfl rfl rfl
        intro vs6 Wc W6 n b E8n T8n nb
        replace E2':=E2'.but b (by omega)
        replace TR:=there_but (by omega) TR b (by omega)
        replace N:=nb w w.heap.size (nxt N n) (by omega)
        clear n b nb T8n T8 E8
        simp only [puts,Act.put,List.setIfInBounds_toArray,List.set_cons_succ,List.set_cons_zero]
        go_upto_region 7 with fail
        refine region_putPF 6 4 5 44 _ (fun i=>[EL ((0) - (V)),RN W6 (fun xs=>xs=fill (byt (((0) - (V)) % PP)) 32),EL (A),RN W6 (fun xs=>xs=fill (byt ((A) % PP)) 32),PT W6 (fun xs ys=>xs=fill (byt (((0) - (V)) % PP)) 32∧ys=fill (byt ((A) % PP)) 32),Fact.eq (.bool true)].getD i Fact.no) (fun xs ys=>xs=fill (byt (((0) - (V)) % PP)) 32∧ys=fill (byt ((A) % PP)) 32) _ (by kernel_rfl) rfl rfl rfl (by kernel_rfl) rfl TR (by kernel_rfl) rfl ?_ ?_
        · intro i hi
          obtain rfl | rfl | rfl | rfl | rfl | rfl:i=0∨i=1∨i=2∨i=3∨i=4∨i=5:=by omega
          · exact step_el rfl 36 8 rfl Go.Proofs.YtnpolopcgmjmnaaGreatDoor.u50 i50 (by kernel_rfl) _ _ rfl _ E8n rfl
          · exact step_bytes rfl 40 0 _ rfl (by kernel_rfl) rfl rfl
          · exact step_el rfl 36 2 rfl Go.Proofs.YtnpolopcgmjmnaaGreatDoor.u50 i50 (by kernel_rfl) _ _ rfl _ E2' rfl
          · exact step_bytes rfl 42 2 _ rfl (by kernel_rfl) rfl rfl
          · exact step_bp rfl 41 43 1 3 _ _ rfl (by kernel_rfl) (by kernel_rfl) rfl rfl rfl
          · exact step_konst rfl rfl rfl
        rintro vt Wa Wb ps qs b1 b2 d1 d2 h1 h2 n bq rg o1 o2 l1 l2 ⟨rfl,rfl⟩ nb hF
        obtain ⟨_,v4⟩:=hF 5 4 (by kernel_rfl)
        clear hF
        change vt 4 = .bool true at v4
        have NS:=nb w w.heap.size (nxt N n) (by omega)
        simp only [puts,v4,Act.put,List.setIfInBounds_toArray,List.set_cons_succ,List.set_cons_zero]
        clear v4
        have z1:=N.size
        clear N n bq nb TR E2' E8n
        rw [show fill (byt (((0) - (V)) % PP)) 32=liX A true from KX.out.symm] at o1 rg
        rw [show fill (byt ((A) % PP)) 32=liY A true from KY.out.symm] at o2 rg
        clear KX KY
        go_wp2
        have k0:=rg 0 _ rfl
        have k1:=rg 1 _ rfl
        simp only [Nat.zero_add] at k0 k1
        refine bodyPost_ret (v := .tuple #[.bool true,.agg #[.slice b1 (liX A true).length d1,.slice b2 (liY A true).length d2]]) (by simp [results,Tryz.results30,go_sem,k0,k1]) rfl ⟨?_,NS⟩
        rw [KK.out]
        exact ⟨b1,b2,d1,d2,h1,h2,rfl,o1,o2,by omega,by omega⟩
end Go.Proofs.YtnpolopcgmjmnaaGreatDoor
namespace Go.Proofs.YtnpolopcgmjmnaaGreatDoor
set_option maxRecDepth 100000
open Go Go.RowKit
set_option maxHeartbeats 2000000 in
theorem specBase_any (w:World):Calls Tryz.prog 18 #[] w fun r w'=>NewPt w.heap.size w' r (liX (4*iv 5) false) (liY (4*iv 5) false)∧Below w.heap.size w w':=by
 have TZ:Two (w.alloc pObj) w.heap.size (.slice none 0 0) (.slice none 0 0):=Two.new w (.slice none 0 0) (.slice none 0 0) 29
 have N:Below w.heap.size w (w.alloc pObj):=(Below.refl _ _).alloc (Nat.le_refl _) _
 go_enter Tryz.func18,Tryz.ntmps18
 go_upto_region 1 with fail
 change Code.wp _ _ _ _ (w.alloc pObj)
 generalize w.alloc pObj=wr at *
 go_wp2_with fail
 refine (l2SmallB_any wr 4 (by omega)).mono ?_
 rintro r w1 ⟨t4,rfl,L4,V4,n⟩
 replace TZ:=TZ.up n
 replace N:=nxt N n
 clear n
 go_wp2_with fail
 refine (l2SmallB_any w1 5 (by omega)).mono ?_
 rintro r w2 ⟨t5,rfl,L5,V5,n⟩
 replace TZ:=TZ.up n
 replace N:=nxt N n
 clear n
 go_wp2_with fail
 refine (l2Inv_any w2 t5 L5).mono ?_
 rintro r w3 ⟨t6,rfl,L6,V6,n⟩
 replace TZ:=TZ.up n
 replace N:=nxt N n
 clear n
 go_wp2_with fail
 refine (l2Mul_any w3 t4 t6 L4 L6).mono ?_
 rintro r w4 ⟨t7,rfl,L7,V7,n⟩
 replace TZ:=TZ.up n
 replace N:=nxt N n
 clear n
 have V:s16 t7 16 % PP=4*iv 5 % PP:=by
  rw [V7]
  exact mod_mul V4 (V6.trans (pow_mod V5 _))
 have z4:=TZ.lt
 have LF:=hide (l5Lift_any w4 t7 (4*iv 5) ⟨L7,V⟩ false)
 clear V4 V5 V6 V7 V L4 L5 L6 L7
 obtain ⟨X,hX⟩:∃ X,X=liX (4*iv 5) false:=⟨_,rfl⟩
 obtain ⟨Y,hY⟩:∃ Y,Y=liY (4*iv 5) false:=⟨_,rfl⟩
 rw [← hX,← hY] at LF
 have KX:=hide hX
 have KY:=hide hY
 clear hX hY
 generalize liB (4*iv 5) false=bb at *
 go_wp2_with fail
 refine LF.out.mono ?_
 rintro r w5 ⟨⟨a1,a2,c1,c2,g1,g2,rfl,o1,o2,l1,l2⟩,n⟩
 replace TZ:=TZ.up n
 have z:=N.size
 have zz:=TZ.lt
 replace N:=nxt N n
 clear n LF
 have TN:=Two.new w5 (.slice a1 X.length c1) (.slice a2 Y.length c2) 29
 have m:Below w5.heap.size w5 (w5.alloc (.cells #[.slice a1 X.length c1,.slice a2 Y.length c2] 29)):=(Below.refl _ _).alloc (Nat.le_refl _) _
 go_upto_region 2 with fail
 generalize w5.alloc (.cells #[.slice a1 X.length c1,.slice a2 Y.length c2] 29)=w6 at *
 obtain ⟨p0,p1,_,_⟩:=TN
 obtain ⟨y0,y1,f0,f1⟩:=TZ.up m
 replace N:=nxt N m
 replace o1:=o1.up m
 replace o2:=o2.up m
 have O:=(Only.setCell w6 w.heap.size 0 (.slice a1 X.length c1)).trans (Only.setCell _ w.heap.size 1 (.slice a2 Y.length c2))
 have o1':=o1.only O (fun _=>by omega)
 have o2':=o2.only O (fun _=>by omega)
 have N':=N.trans (O.below (Nat.le_refl _))
 clear TZ m o1 o2 O N
 go_wp2
 refine bodyPost_ret (v := .agg #[.slice a1 X.length c1,.slice a2 Y.length c2]) (by simp [results,Tryz.results18,go_sem,y0,y1]) rfl ⟨?_,N'⟩
 rw [← KX.out,← KY.out]
 exact ⟨a1,a2,c1,c2,g1,g2,rfl,o1',o2',by omega,by omega⟩
end Go.Proofs.YtnpolopcgmjmnaaGreatDoor
namespace Go.Proofs.YtnpolopcgmjmnaaGreatDoor
set_option maxRecDepth 100000
open Go Go.RowKit
def low7s (xs:List Int):List Int:=xs.set 31 (xs.getD 31 0 % 128)
def dcB (xs:List Int):Bool:=decide (xs.length=32) && (canN (low7s xs) && liB (num (low7s xs)) (decide (128≤xs.getD 31 0)))
def dcX (xs:List Int):List Int:=if dcB xs=true then liX (num (low7s xs)) (decide (128≤xs.getD 31 0)) else []
def dcY (xs:List Int):List Int:=if dcB xs=true then liY (num (low7s xs)) (decide (128≤xs.getD 31 0)) else []
def NewPR (B:Nat) (w':World) (e:Ending) (b:Bool) (xs ys:List Int):Prop :=
 ∃ (a a':Option Addr) (c c' g g':Nat),e = .returned (.agg #[.bool b,.slice a xs.length c,.slice a' ys.length c'])∧Own w' g a .u8 xs∧Own w' g' a' .u8 ys∧B≤g∧B≤g'
theorem newPR_nil {B:Nat} {w:World}:NewPR B w (.returned (.agg #[.bool false,.slice none 0 0,.slice none 0 0])) false [] []:=⟨none,none,0,0,B,B,rfl,Own.nil _ _ _ _,Own.nil _ _ _ _,Nat.le_refl _,Nat.le_refl _⟩
def LiF (w0:World) (A:Int) (odd:Bool):Fact:=⟨fun v w=>∃ (a a':Option Addr) (c c' g g':Nat),v = .tuple #[.bool (liB A odd),.agg #[.slice a (liX A odd).length c,.slice a' (liY A odd).length c']]∧Own w g a .u8 (liX A odd)∧Own w g' a' .u8 (liY A odd)∧w0.heap.size≤g∧w0.heap.size≤g',fun n h=>by
 obtain ⟨a,a',c,c',g,g',e,o,o',q⟩:=h
 exact ⟨a,a',c,c',g,g',e,o.up n,o'.up n,q⟩⟩
def NBp (w0:World):Fact:=⟨fun v w=>∃ q,v = .pointer (some ⟨q,0,none⟩)∧w.heap[q]?=some pObj∧w0.heap.size≤q,fun {v w w'} n h=>by
 obtain ⟨q,e,h,l⟩:=h
 exact ⟨q,e,(n.block q (Array.getElem?_eq_some_iff.1 h).1).trans h,l⟩⟩
theorem pObj_there {W:World} {q:Nat} (h:W.heap[q]?=some pObj):W.there q 0 2:=fun j hj=>by
 constructor
 ·unfold World.cell?
  simp only
  rw [h]
  obtain rfl | rfl:j=0∨j=1:=by omega
  all_goals rfl
 ·unfold World.frozen?
  simp only
  rw [h]
  simp
theorem own_ne {W:World} {q g:Nat} {a:Option Addr} {xs:List Int} (h:W.heap[q]?=some pObj) (o:Own W g a .u8 xs) (h0:0 < xs.length):g≠q:=fun e=>by
 obtain ⟨off,_,hc⟩:=o h0
 have c:=(hc 0 h0).1
 subst e
 unfold World.cell? at c
 simp only at c
 rw [h] at c
 rcases (show off=0∨off=1∨2≤off by omega) with r | r | r
 ·subst r
  simp at c
 ·subst r
  simp at c
 ·have : ([Value.slice none 0 0, .slice none 0 0].toArray)[off + 0]? = none := by simp; omega
  simp only [this] at c
  simp at c
theorem en_lift:enters Tryz.prog 30=true:=by kernel_rfl
section
variable {ops : Array Oper} {Q : Exit → Act → World → Prop} {md : Region.Mode} {F : Nat → Fact} {a0 : Act} {w0 : World} {i : Nat} {o : Oper} {ts : Array TypeId}
theorem step_mvp {P:Program} (hi:ops[i]?=some o) (p:Nat) (hop:o.op = .move (.tmp p)) (hp:apart ops p=true) {v:Value} (h0:a0.tmps.getD p undef=v) (hF:F i=Fact.eq v):StepOk P md ops Q F a0 w0 i:=by
 refine step_pure hi fun b w hb hw _=>⟨v,?_,by rw [hF];exact rfl⟩
 have e:=(based_at hb p hp).trans h0
 simp [execOp,hop,e]
theorem step_of32 (hi:ops[i]?=some o) (p j:Nat) {a:Option Addr} {c:Nat} {xs:List Int} (hop:o.op = .call { callee := .value (.func 20),args := #[.tmp p],argTypes:=ts })
  (hj:waits md ops i j p=true) (hO:OfOk w0 a xs) (hFj:F j=Fact.eq (.slice a 32 c)) (hFi:F i=EL (num xs)):StepOk Tryz.prog md ops Q F a0 w0 i:=by
 have hl:xs.length=32:=by obtain ⟨_,_,_,h⟩:=hO;exact h
 exact step_of hi p j hop hj hO (hFj.trans (by rw [hl])) hFi
theorem step_at31 (hi:ops[i]?=some o) (p j:Nat) {g off c:Nat} (hop:o.op = .indexAddr 22 (.tmp p) (.const (.int .i64 31))) (hj:waits md ops i j p=true) (hFj:F j=Fact.eq (.slice (some ⟨g,off,none⟩) 32 c)) (hF:F i=Fact.eq (.pointer (some ⟨g,off+31,none⟩))):StepOk Tryz.prog md ops Q F a0 w0 i:=by
 refine step_pure hi fun a w hb hw hf=>⟨.pointer (some ⟨g,off+31,none⟩),?_,by rw [hF];exact rfl⟩
 have e:=hf j p hj
 rw [hFj] at e
 have e':a.eval (.tmp p) = .slice (some ⟨g,off,none⟩) 32 c:=e
 have e2:a.eval (.const (.int .i64 31)) = .int .i64 31:=rfl
 simp only [execOp,hop,e',e2]
 go_simp
theorem step_ld8 (hi:ops[i]?=some o) (p j:Nat) {q off:Nat} {v:Value} (hop:o.op = .load 5 (.tmp p)) (hj:waits md ops i j p=true) (hFj:F j=Fact.eq (.pointer (some ⟨q,off,none⟩))) (hc:w0.cell? ⟨q,off,none⟩=some v) (hF:F i=Fact.eq v):StepOk Tryz.prog md ops Q F a0 w0 i:=by
 refine step_pure hi fun a w _ hw hf=>⟨v,?_,by rw [hF];exact rfl⟩
 have e:=hf j p hj
 rw [hFj] at e
 have e':a.eval (.tmp p) = .pointer (some ⟨q,off,none⟩):=e
 have c':w.cell? ⟨q,off,none⟩=some v:=(hw.cell (block_lt_of_cell hc)).trans hc
 simp only [execOp,hop,e']
 go_simp
theorem step_geq (hi:ops[i]?=some o) (p j:Nat) {v:Int} {b:Bool} (hop:o.op = .binOp .geq 5 (.tmp p) (.const (.int .u8 128)) 5) (hj:waits md ops i j p=true) (hFj:F j=Fact.eq (.int .u8 v)) (hb:b=decide (128≤v)) (hF:F i=Fact.eq (.bool b)):StepOk Tryz.prog md ops Q F a0 w0 i:=by
 refine step_pure hi fun a w _ hw hf=>⟨.bool b,?_,by rw [hF];exact rfl⟩
 have e:=hf j p hj
 rw [hFj] at e
 have e':a.eval (.tmp p) = .int .u8 v:=e
 have e2:a.eval (.const (.int .u8 128)) = .int .u8 128:=rfl
 subst hb
 simp only [execOp,hop,e',e2]
 go_simp
theorem step_lift (hi:ops[i]?=some o) (p q j k:Nat) {A:Int} {odd:Bool} (hop:o.op = .call { callee := .value (.func 30),args := #[.tmp p,.tmp q],argTypes:=ts })
  (hj:waits md ops i j p=true) (hk:waits md ops i k q=true) (hFj:F j=EL A) (hFk:F k=Fact.eq (.bool odd)) (hFi:F i=LiF w0 A odd):StepOk Tryz.prog md ops Q F a0 w0 i:=by
 refine step_call hi _ _ ts hop en_lift fun a w _ hw hF=>?_
 have ea:=hF j p hj
 have eb:=hF k q hk
 rw [hFj] at ea
 rw [hFk] at eb
 obtain ⟨t,e1,L1,V1⟩:=ea
 have e2:a.tmps.getD q undef = .bool odd:=eb
 show Calls Tryz.prog 30 #[a.tmps.getD p undef,a.tmps.getD q undef] w _
 rw [e1,e2]
 refine (l5Lift_any w t A ⟨L1,V1⟩ odd).mono ?_
 rintro r w' ⟨⟨b,b',c,c',g,g',rfl,o1,o2,l1,l2⟩,hn⟩
 rw [hFi]
 exact ⟨_,rfl,hn,b,b',c,c',g,g',rfl,o1,o2,Nat.le_trans hw.size l1,Nat.le_trans hw.size l2⟩
theorem step_exL0 {P:Program} (hi:ops[i]?=some o) (p j:Nat) {A:Int} {odd:Bool} (hop:o.op = .extract (.tmp p) 0) (hj:waits md ops i j p=true) (hFj:F j=LiF w0 A odd) (hFi:F i=Fact.eq (.bool (liB A odd))):StepOk P md ops Q F a0 w0 i:=by
 refine step_pure hi fun a w _ _ hf=>⟨.bool (liB A odd),?_,by rw [hFi];exact rfl⟩
 have e:=hf j p hj
 rw [hFj] at e
 obtain ⟨b,b',c,c',g,g',e,_⟩:=e
 have e':a.eval (.tmp p) = .tuple #[.bool (liB A odd),.agg #[.slice b (liX A odd).length c,.slice b' (liY A odd).length c']]:=e
 simp only [execOp,hop,e']
 rfl
theorem step_exL1 {P:Program} (hi:ops[i]?=some o) (p j:Nat) {A:Int} {odd:Bool} (hop:o.op = .extract (.tmp p) 1) (hj:waits md ops i j p=true) (hFj:F j=LiF w0 A odd) (hFi:F i=PT w0 (fun xs zs=>xs=liX A odd∧zs=liY A odd)):StepOk P md ops Q F a0 w0 i:=by
 refine step_pure hi fun a w _ _ hf=>?_
 have e:=hf j p hj
 rw [hFj] at e
 obtain ⟨b,b',c,c',g,g',e,o1,o2,l1,l2⟩:=e
 have e':a.eval (.tmp p) = .tuple #[.bool (liB A odd),.agg #[.slice b (liX A odd).length c,.slice b' (liY A odd).length c']]:=e
 refine ⟨.agg #[.slice b (liX A odd).length c,.slice b' (liY A odd).length c'],?_,by rw [hFi];exact ⟨_,_,b,b',c,c',g,g',rfl,o1,o2,l1,l2,rfl,rfl⟩⟩
 simp only [execOp,hop,e']
 rfl
theorem step_newP (hi:ops[i]?=some o) (hop:o.op = .alloc 29) (hF:F i=NBp w0):StepOk Tryz.prog md ops Q F a0 w0 i:=by
 refine step_grow hi fun a w _ hw _=>⟨.pointer (some ⟨w.heap.size,0,none⟩),w.alloc pObj,?_,(Below.refl _ _).alloc (Nat.le_refl _) _,?_⟩
 ·simp only [execOp, hop]
  kernel_rfl
 ·rw [hF]
  exact ⟨_,rfl,heap_alloc_last _ _,hw.size⟩
end
section
variable {ops : Array Oper} {Q : Exit → Act → World → Prop} {a0 : Act} {w : World} {id : Nat} {draw : Bool}
theorem region_newPF (k jA jV pA pV:Nat) (o:Oper) (F:Nat→Fact) (p:List Int→List Int→Prop) (hT:textOk .any ops a0.tmps.size k=true) (hk:ops[k]?=some o) (hd:o.dst=none) (hop:o.op = .store 29 (.tmp pA) (.tmp pV))
  (wA:writes ops jA pA=true) (wV:writes ops jV pV=true) (FA:F jA=NBp w) (FV:F jV=PT w p) (steps:∀ i,i < k→StepOk Tryz.prog .any ops Q F a0 w i)
  (fin:∀ (vs:Nat→Value) (q:Nat) (W:World) (xs ys:List Int) (a a':Option Addr) (c c' g g':Nat),vs pA = .pointer (some ⟨q,0,none⟩)→w.heap.size≤q→Below w.heap.size w W→W.rangeAt q 0 [.slice a xs.length c,.slice a' ys.length c']→W.there q 0 2→Own W g a .u8 xs→Own W g' a' .u8 ys→w.heap.size≤g→w.heap.size≤g'→p xs ys→(∀ i d,writes ops i d=true→∃ Wp,(F i).p (vs d) Wp)→Q .normal (puts vs a0 ops.toList) W) :
  (Code.region id ops draw).wp Tryz.prog Q a0 w:=by
 refine region_store k o F (by kernel_rfl) hT hk hd steps fun a W hb hw hF=>?_
 have h1:=hF jA pA wA
 have h2:=hF jV pV wV
 rw [FA] at h1
 rw [FV] at h2
 obtain ⟨q,eq,hq,lq⟩:=h1
 obtain ⟨xs,ys,b,b',c,c',g,g',ev,o1,o2,l1,l2,hpp⟩:=h2
 have th:=pObj_there hq
 refine wp_store_mid 29 (.tmp pA) (.tmp pV) hop q 0 #[.slice b xs.length c,.slice b' ys.length c'] eq ev th iP (by simp [Value.oneCell']) ?_
 obtain ⟨vs,hvs⟩:∃ vs:Nat→Value,∀ d,a.tmps.getD d undef=vs d:=⟨_,fun _=>rfl⟩
 rw [hd]
 show Q .normal a _
 rw [puts_of hT rfl hb vs hvs]
 refine fin vs q _ xs ys b b' c c' g g' ((hvs pA).symm.trans eq) lq (below_setCells lq _ _ _ hw) (World.rangeAt_setCells_same W q 0 _ th) (World.there_setCells th _ _ _) ?_ ?_ l1 l2 hpp (fun i d h=>⟨W,by rw [← hvs];exact hF i d h⟩)
 ·exact fun h0=>o1.of_block (setCells_other (own_ne hq o1 h0) _ 0 W) h0
 ·exact fun h0=>o2.of_block (setCells_other (own_ne hq o2 h0) _ 0 W) h0
end
structure Tri (w:World) (p:Nat) (x y z:Value):Prop where
 c0:w.cell? ⟨p,0,none⟩=some x
 c1:w.cell? ⟨p,1,none⟩=some y
 c2:w.cell? ⟨p,2,none⟩=some z
 f0:w.frozen? ⟨p,0,none⟩=false
 f1:w.frozen? ⟨p,1,none⟩=false
 f2:w.frozen? ⟨p,2,none⟩=false
theorem Tri.lt {w:World} {p:Nat} {x y z:Value} (h:Tri w p x y z):p < w.heap.size:=block_lt_of_cell h.c0
theorem Tri.up {w w':World} {p:Nat} {x y z:Value} (h:Tri w p x y z) (n:Below w.heap.size w w'):Tri w' p x y z:=by
 have hb:=n.block p h.lt
 exact ⟨(World.cell?_of_block (a:=⟨p,0,none⟩) hb).trans h.c0,(World.cell?_of_block (a:=⟨p,1,none⟩) hb).trans h.c1,(World.cell?_of_block (a:=⟨p,2,none⟩) hb).trans h.c2,(World.frozen?_of_block (a:=⟨p,0,none⟩) hb).trans h.f0,(World.frozen?_of_block (a:=⟨p,1,none⟩) hb).trans h.f1,(World.frozen?_of_block (a:=⟨p,2,none⟩) hb).trans h.f2⟩
theorem Tri.new (w:World) (x y z:Value) (t:TypeId):Tri (w.alloc (.cells #[x,y,z] t)) w.heap.size x y z:=by
 have e:(w.alloc (.cells #[x,y,z] t)).heap[w.heap.size]?=some (.cells #[x,y,z] t):=heap_alloc_last _ _
 refine ⟨?_,?_,?_,?_,?_,?_⟩
 all_goals first
  | (unfold World.cell?;simp only;rw [e];rfl)
  | (unfold World.frozen?;simp only;rw [e];simp)
theorem low7s_len (xs:List Int):(low7s xs).length=xs.length:=by unfold low7s;simp
theorem low7s_byt {xs:List Int} (h:Byt xs):Byt (low7s xs):=by
 intro j
 unfold low7s
 by_cases e:31=j
 ·subst e
  by_cases c:31 < xs.length
  ·rw [getD_set_self _ _ _ c]
   have:=h 31
   show 0≤xs.getD 31 0 % 128∧xs.getD 31 0 % 128 < 256
   omega
  ·rw [List.set_eq_of_length_le (by omega)]
   exact h 31
 ·rw [getD_set_ne _ _ _ _ e]
  exact h j
abbrev prObj:Obj := .cells #[.bool false,.slice none 0 0,.slice none 0 0] 31
set_option maxHeartbeats 2000000 in
theorem specDecode_any (w : World) (g : Nat) (a : Option Addr) (c : Nat) (xs : List Int) (hr : Rd w g a .u8 xs) (hb : Byt xs) (hc : a = none → c = 0) :
    Calls Tryz.prog 9 #[.slice a xs.length c] w fun r w'=>NewPR w.heap.size w' r (dcB xs) (dcX xs) (dcY xs)∧Below w.heap.size w w':=by
  have TZ:=Tri.new w (.bool false) (.slice none 0 0) (.slice none 0 0) 31
  have N:Below w.heap.size w (w.alloc prObj):=(Below.refl _ _).alloc (Nat.le_refl _) _
  by_cases hl:xs.length=32
  · have CP := hide (fun W n => l1Copy_any W g a c xs (hr.up n) hc (by omega))
    have LH:=hide hl
    have b31':=hb 31
    have DB:Hid (dcB xs=(canN (low7s xs) && liB (num (low7s xs)) (decide (128≤xs.getD 31 0)))):=by show _=_;unfold dcB;rw [decide_eq_true hl];rfl
    have DX:Hid (dcX xs=if dcB xs=true then liX (num (low7s xs)) (decide (128≤xs.getD 31 0)) else []):=by show _=_;rfl
    have DY:Hid (dcY xs=if dcB xs=true then liY (num (low7s xs)) (decide (128≤xs.getD 31 0)) else []):=by show _=_;rfl
    obtain ⟨o0,rfl,rc⟩:=id hr (by omega)
    have CB0:=hide (rc 31 (by omega))
    have hg:=hr.lt (by omega)
    rw [hl] at CP ⊢
    clear hl rc
    go_enter Tryz.func9,Tryz.ntmps9
    go_upto_region 3 with fail
    change Code.wp _ _ _ _ (w.alloc prObj)
    generalize w.alloc prObj=wr at *
    go_wp2_with fail
    refine (CP.out wr N).mono ?_
    rintro r w1 ⟨⟨a1,c1,g1,rfl,o1,p1,q1,r1⟩,n1⟩
    have z1:=TZ.lt
    replace TZ:=TZ.up n1
    replace N:=nxt N n1
    clear CP n1 p1
    rw [LH.out] at q1 ⊢
    obtain ⟨off,rfl,oc⟩:=id o1 (by rw [LH.out];decide)
    have x31:=(oc 31 (by rw [LH.out];decide)).1
    have f31:=(oc 31 (by rw [LH.out];decide)).2
    have S1:=o1.store 31 (by rw [LH.out];decide) (xs.getD 31 0 % 128)
    have N2:Below w.heap.size w (w1.setCell ⟨g1,off+31,none⟩ (.int .u8 (xs.getD 31 0 % 128))):=N.setCell (by show w.heap.size≤g1;omega) _
    have TZ2:Tri (w1.setCell ⟨g1,off+31,none⟩ (.int .u8 (xs.getD 31 0 % 128))) w.heap.size (.bool false) (.slice none 0 0) (.slice none 0 0):=by
      have hbk:=heap_setCell_other w1 ⟨g1,off+31,none⟩ w.heap.size (.int .u8 (xs.getD 31 0 % 128)) (by show w.heap.size≠g1;omega)
      exact ⟨(World.cell?_of_block (a:=⟨w.heap.size,0,none⟩) hbk).trans TZ.c0,(World.cell?_of_block (a:=⟨w.heap.size,1,none⟩) hbk).trans TZ.c1,(World.cell?_of_block (a:=⟨w.heap.size,2,none⟩) hbk).trans TZ.c2,(World.frozen?_of_block (a:=⟨w.heap.size,0,none⟩) hbk).trans TZ.f0,(World.frozen?_of_block (a:=⟨w.heap.size,1,none⟩) hbk).trans TZ.f1,(World.frozen?_of_block (a:=⟨w.heap.size,2,none⟩) hbk).trans TZ.f2⟩
    have YB:=hide (low7s_byt hb)
    have YL:=hide ((low7s_len xs).trans LH.out)
    have SO:Hid (Own (w1.setCell ⟨g1,off+31,none⟩ (.int .u8 (xs.getD 31 0 % 128))) g1 (some ⟨g1,off,none⟩) .u8 (low7s xs)):=S1
    have CB:Hid ((w1.setCell ⟨g1,off+31,none⟩ (.int .u8 (xs.getD 31 0 % 128))).cell? ⟨g,o0+31,none⟩=some (.int .u8 (xs.getD 31 0))):=(N2.cell hg).trans CB0.out
    clear S1 o1 oc TZ N CB0 LH hb hr
    obtain ⟨ys,hys⟩:∃ ys,ys=low7s xs:=⟨_,rfl⟩
    rw [← hys] at YB YL SO DB DX DY
    clear hys
    obtain ⟨b31,h31⟩:∃ b,b=xs.getD 31 0:=⟨_,rfl⟩
    rw [← h31] at x31 N2 TZ2 SO CB DB DX DY b31'
    clear h31
    obtain ⟨odd,hodd⟩:∃ o,o=decide (128≤b31):=⟨_,rfl⟩
    rw [← hodd] at DB DX DY
    have HO:=hide hodd
    clear hodd
    have FC:=hide (fun W (h:Rd W g1 (some ⟨g1,off,none⟩) .u8 ys)=>specFieldCanonical_any W g1 (some ⟨g1,off,none⟩) c1 ys h YB.out)
    rw [YL.out] at FC
    cases hcn:canN ys with
    | false =>
      have KB:Hid (dcB xs=false):=by show _=_;rw [DB.out,hcn];rfl
      have KX:Hid (dcX xs=[]):=by show _=_;rw [DX.out,if_neg (by rw [KB.out];simp)]
      have KY:Hid (dcY xs=[]):=by show _=_;rw [DY.out,if_neg (by rw [KB.out];simp)]
      rw [hcn] at FC
      clear hcn DB DX DY CB
      go_wp2_with fail
      generalize w1.setCell ⟨g1,off+31,none⟩ (.int .u8 (b31 % 128))=w3 at *
      refine (FC.out w3 SO.out.rd).mono ?_
      rintro r w4 ⟨rfl,n⟩
      obtain ⟨y0,y1,y2,u0,u1,u2⟩:=TZ2.up n
      have N4:=nxt N2 n
      clear FC SO n TZ2 N2 x31 f31
      go_wp2
      refine bodyPost_ret (v := .agg #[.bool false,.slice none 0 0,.slice none 0 0]) (by simp [results,Tryz.results9,go_sem,y0,y1,y2]) rfl ⟨by rw [KB.out,KX.out,KY.out];exact newPR_nil,?_⟩
      exact ((N4.setCell (Nat.le_refl _) _).setCell (Nat.le_refl _) _).setCell (Nat.le_refl _) _
    | true =>
      rw [hcn] at DB FC
      clear hcn
      go_wp2_with fail
      generalize w1.setCell ⟨g1,off+31,none⟩ (.int .u8 (b31 % 128))=w3 at *
      refine (FC.out w3 SO.out.rd).mono ?_
      rintro r w4 ⟨rfl,n⟩
      have OY:=hide (of_ok (SO.out.rd.up n) YB.out YL.out)
      replace CB:=hide ((n.cell (block_lt_of_cell CB.out)).trans CB.out)
      replace TZ2:=TZ2.up n
      have N4:=nxt N2 n
      clear FC SO n N2 x31 f31
      go_upto_region 7 with fail
      refine region_newPF 12 10 9 5 31 _ (fun i=>[Fact.eq (.slice (some ⟨g1,off,none⟩) 32 c1),EL (num ys),Fact.eq (.slice (some ⟨g,o0,none⟩) 32 c),Fact.eq (.pointer (some ⟨g,o0+31,none⟩)),Fact.eq (.int .u8 b31),Fact.eq (.bool odd),LiF w4 (num ys) odd,LiF w4 (num ys) odd,Fact.eq (.bool (liB (num ys) odd)),PT w4 (fun xs zs=>xs=liX (num ys) odd∧zs=liY (num ys) odd),NBp w4,Fact.eq (.bool (liB (num ys) odd))].getD i Fact.no) (fun xs zs=>xs=liX (num ys) odd∧zs=liY (num ys) odd) (by kernel_rfl) rfl rfl rfl (by kernel_rfl) (by kernel_rfl) rfl rfl ?_ ?_
      · intro i hi
        obtain rfl | rfl | rfl | rfl | rfl | rfl | rfl | rfl | rfl | rfl | rfl | rfl:i=0∨i=1∨i=2∨i=3∨i=4∨i=5∨i=6∨i=7∨i=8∨i=9∨i=10∨i=11:=by omega
        · exact step_mvp rfl 3 rfl (by kernel_rfl) rfl rfl
        · exact step_of32 rfl 23 0 rfl (by kernel_rfl) OY.out rfl rfl
        · exact step_mvp rfl 0 rfl (by kernel_rfl) rfl rfl
        · exact step_at31 rfl 25 2 rfl (by kernel_rfl) rfl rfl
        · exact step_ld8 rfl 26 3 rfl (by kernel_rfl) rfl CB.out rfl
        · exact step_geq rfl 27 4 rfl (by kernel_rfl) rfl HO.out rfl
        · exact step_lift rfl 24 28 1 5 rfl (by kernel_rfl) (by kernel_rfl) rfl rfl rfl
        · exact step_move rfl 29 6 (by exact Or.inl rfl) (by kernel_rfl) rfl
        · exact step_exL0 rfl 22 7 rfl (by kernel_rfl) rfl rfl
        · exact step_exL1 rfl 22 7 rfl (by kernel_rfl) rfl rfl
        · exact step_newP rfl rfl rfl
        · exact step_move rfl 30 8 (by exact Or.inr rfl) (by kernel_rfl) rfl
      rintro vt q5 W7 ps qs b1 b2 d1 d2 h1 h2 v5 l5 n rg th o1 o2 l1 l2 ⟨rfl,rfl⟩ hF
      obtain ⟨_,v4⟩:=hF 11 4 (by kernel_rfl)
      clear hF
      change vt 4 = .bool (liB (num ys) odd) at v4
      have z4:=TZ2.lt
      replace TZ2:=TZ2.up n
      have z0:=N4.size
      replace N4:=nxt N4 n
      clear n OY CB th
      simp only [puts,v5,v4,Act.put,List.setIfInBounds_toArray,List.set_cons_succ,List.set_cons_zero]
      clear v4 v5
      have k0:=rg 0 _ rfl
      have k1:=rg 1 _ rfl
      simp only [Nat.zero_add] at k0 k1
      clear rg
      obtain ⟨y0,y1,y2,u0,u1,u2⟩:=TZ2
      cases hli:liB (num ys) odd with
      | false =>
        have KB:Hid (dcB xs=false):=by show _=_;rw [DB.out,hli];rfl
        have KX:Hid (dcX xs=[]):=by show _=_;rw [DX.out,if_neg (by rw [KB.out];simp)]
        have KY:Hid (dcY xs=[]):=by show _=_;rw [DY.out,if_neg (by rw [KB.out];simp)]
        clear DB DX DY o1 o2 hli
        go_wp2
        refine bodyPost_ret (v := .agg #[.bool false,.slice none 0 0,.slice none 0 0]) (by simp [results,Tryz.results9,go_sem,y0,y1,y2]) rfl ⟨by rw [KB.out,KX.out,KY.out];exact newPR_nil,?_⟩
        exact ((N4.setCell (Nat.le_refl _) _).setCell (Nat.le_refl _) _).setCell (Nat.le_refl _) _
      | true =>
        have KB:Hid (dcB xs=true):=by show _=_;rw [DB.out,hli];rfl
        have KX:Hid (dcX xs=liX (num ys) odd):=by show _=_;rw [DX.out,if_pos KB.out]
        have KY:Hid (dcY xs=liY (num ys) odd):=by show _=_;rw [DY.out,if_pos KB.out]
        clear DB DX DY hli
        generalize liX (num ys) odd=X at *
        generalize liY (num ys) odd=Y at *
        have O:=((Only.setCell W7 w.heap.size 0 (.bool true)).trans (Only.setCell _ w.heap.size 1 (.slice b1 X.length d1))).trans (Only.setCell _ w.heap.size 2 (.slice b2 Y.length d2))
        have o1':=o1.only O (fun _=>by omega)
        have o2':=o2.only O (fun _=>by omega)
        have N':=N4.trans (O.below (Nat.le_refl _))
        clear o1 o2 O N4
        go_wp2
        refine bodyPost_ret (v := .agg #[.bool true,.slice b1 X.length d1,.slice b2 Y.length d2]) (by simp [results,Tryz.results9,go_sem,y0,y1,y2]) rfl ⟨?_,N'⟩
        rw [KB.out,KX.out,KY.out]
        exact ⟨b1,b2,d1,d2,h1,h2,rfl,o1',o2',by omega,by omega⟩
  · have t : ((xs.length : Int) != 32) = true := by simp; omega
    have KB:Hid (dcB xs=false):=by show _=_;unfold dcB;rw [decide_eq_false hl];rfl
    have KX:Hid (dcX xs=[]):=by show _=_;unfold dcX;rw [if_neg (by rw [KB.out];simp)]
    have KY:Hid (dcY xs=[]):=by show _=_;unfold dcY;rw [if_neg (by rw [KB.out];simp)]
    obtain ⟨y0,y1,y2,u0,u1,u2⟩:=TZ
    clear hl
    go_enter Tryz.func9,Tryz.ntmps9
    go_upto_region 1 with fail
    change Code.wp _ _ _ _ (w.alloc prObj)
    generalize w.alloc prObj=wr at *
    go_wp2
    refine bodyPost_ret (v := .agg #[.bool false,.slice none 0 0,.slice none 0 0]) (by simp [results,Tryz.results9,go_sem,y0,y1,y2]) rfl ⟨by rw [KB.out,KX.out,KY.out];exact newPR_nil,?_⟩
    exact ((N.setCell (Nat.le_refl _) _).setCell (Nat.le_refl _) _).setCell (Nat.le_refl _) _
end Go.Proofs.YtnpolopcgmjmnaaGreatDoor
namespace Go.Proofs.YtnpolopcgmjmnaaGreatDoor
set_option maxRecDepth 100000
open Go Go.RowKit
end Go.Proofs.YtnpolopcgmjmnaaGreatDoor
namespace Go.Proofs.YtnpolopcgmjmnaaGreatDoor
set_option maxRecDepth 100000
open Go Go.RowKit
theorem Two.put0 {w:World} {p:Nat} {x y:Value} (h:Two w p x y) (u:Value):Two (w.setCell ⟨p,0,none⟩ u) p u y :=
 ⟨World.cell?_setCell_same _ _ _ h.c0,by rw [World.cell?_setCell_other (h:=by simp)];exact h.c1,by rw [World.frozen?_setCell];exact h.f0,by rw [World.frozen?_setCell];exact h.f1⟩
theorem Two.put1 {w:World} {p:Nat} {x y:Value} (h:Two w p x y) (u:Value):Two (w.setCell ⟨p,1,none⟩ u) p x u :=
 ⟨by rw [World.cell?_setCell_other (h:=by simp)];exact h.c0,World.cell?_setCell_same _ _ _ h.c1,by rw [World.frozen?_setCell];exact h.f0,by rw [World.frozen?_setCell];exact h.f1⟩
theorem Two.put {w:World} {p:Nat} {x y:Value} (h:Two w p x y) (u v:Value):Two ((w.setCell ⟨p,0,none⟩ u).setCell ⟨p,1,none⟩ v) p u v:=(h.put0 u).put1 v
end Go.Proofs.YtnpolopcgmjmnaaGreatDoor
namespace Go.Proofs.YtnpolopcgmjmnaaGreatDoor
set_option maxRecDepth 100000
open Go Go.RowKit
end Go.Proofs.YtnpolopcgmjmnaaGreatDoor
namespace Go.Proofs.YtnpolopcgmjmnaaGreatDoor
set_option maxRecDepth 100000
open Go Go.RowKit
structure Pv (p:Int × Int):Prop where
 on:OnP PP (-1) d0 p
 cn:Cn p
def lx (p:Int × Int):List Int:=fill (byt p.1) 32
def ly (p:Int × Int):List Int:=fill (byt p.2) 32
theorem lx_byt (p:Int × Int):Byt (lx p):=bytes_5 _ _
theorem ly_byt (p:Int × Int):Byt (ly p):=bytes_5 _ _
theorem lx_len (p:Int × Int):(lx p).length=32:=fill_len _ _
theorem ly_len (p:Int × Int):(ly p).length=32:=fill_len _ _
theorem num_fill {v:Int} (h0:0≤v) (h1:v < PP):num (fill (byt v) 32)=v:=by
 have e:=num_modS v
 rwa [Int.emod_eq_of_lt h0 h1] at e
theorem lx_num {p:Int × Int} (h:Pv p):num (lx p)=p.1:=num_fill h.cn.x.1 h.cn.x.2
theorem ly_num {p:Int × Int} (h:Pv p):num (ly p)=p.2:=num_fill h.cn.y.1 h.cn.y.2
theorem can_fill {v:Int} (h0:0≤v) (h1:v < PP):canN (fill (byt v) 32)=true:=by
 unfold canN
 rw [num_fill h0 h1,fill_len,decide_eq_true h1]
 rfl
theorem lv_valid {p:Int × Int} (h:Pv p):validP (lx p) (ly p)=true:=by
 unfold validP
 rw [lx_num h,ly_num h,show canN (lx p)=true from can_fill h.cn.x.1 h.cn.x.2,show canN (ly p)=true from can_fill h.cn.y.1 h.cn.y.2,on_valid h.on]
 rfl
theorem Pv.add {p q:Int × Int} (hp:Pv p) (hq:Pv q):Pv (pAdd p q):=⟨pAdd_on hp.on hq.on,pAdd_cn _ _⟩
def pZero:Int × Int:=(0,1)
theorem pv_zero:Pv pZero:=⟨by show PP ∣ _;decide,zero_cn⟩
theorem ze_of:fill (byt (0 % PP)) 32=lx pZero∧fill (byt (1 % PP)) 32=ly pZero:=⟨rfl,rfl⟩
theorem pv_base:Pv (bX,bY):=⟨base_on,base_cn⟩
end Go.Proofs.YtnpolopcgmjmnaaGreatDoor
namespace Go.Proofs.YtnpolopcgmjmnaaGreatDoor
set_option maxRecDepth 100000
open Go Go.RowKit
def scV (ks:List Int):Nat:=(lsum (fun j=>ks.getD j 0) 32).toNat
theorem byt_bt {ks:List Int} (h:Byt ks):Bt (fun j=>ks.getD j 0):=fun j=>h j
section
variable {ops : Array Oper} {Q : Exit → Act → World → Prop} {md : Region.Mode} {F : Nat → Fact} {a0 : Act} {w0 w : World} {i id : Nat} {o : Oper} {ts : Array TypeId} {draw : Bool}
theorem step_scl {D:Int} (hD:PP ∣ D - d0) (TT:HasTw w0 8) (CC:Em5 w0 7 0 D) (ZP:RowN w0 2 0 [0,1]) (SS:HasSt w0 13) (II:Has3 w0 9 12 5 4) (X Y:Int) (hp:OnP PP (-1) d0 (X,Y)) {U:Nat→Int} (hU:W4 U) {v:Nat} (hv:wval U=(v:Int)) (hi:ops[i]?=some o) (p q j k:Nat) (hop:o.op = .call { callee := .value (.func 74),args := #[.tmp p,.tmp q],argTypes:=ts }) (hj:waits md ops i j p=true) (hk:waits md ops i k q=true) (hFj:F j=Fact.eq (ag4 U)) (hFk:F k=EN [X,Y]) (hFi:F i=EN [(mlP v (X,Y)).1,(mlP v (X,Y)).2]):StepOk Tryz.prog md ops Q F a0 w0 i:=by
 refine step_call hi _ _ ts hop (by kernel_rfl) fun A w _ hw hF=>?_
 have ea:=hF j p hj
 have eb:=hF k q hk
 rw [hFj] at ea
 rw [hFk] at eb
 have e1:A.tmps.getD p undef=ag4 U:=ea
 obtain ⟨t,e2,L2⟩:=eb
 show Calls Tryz.prog _ #[A.tmps.getD p undef,A.tmps.getD q undef] w _
 rw [e1,e2]
 refine (scale_any w U hU v hv t X Y D L2 hp hD (TT.up hw) (CC.up hw) (ZP.up hw) (SS.up hw) (II.up hw)).mono ?_
 rintro e w' ⟨⟨s,X',Y',rfl,L,h1,h2⟩,hn⟩
 rw [hFi]
 exact ⟨_,rfl,hn,s,rfl,L.cg (by simp only [List.map_cons,List.map_nil,h1,h2])⟩
end
end Go.Proofs.YtnpolopcgmjmnaaGreatDoor
namespace Go.Proofs.YtnpolopcgmjmnaaGreatDoor
set_option maxRecDepth 100000
theorem iv_eInv (z:Int):iv z=z ^ eInv:=by
 unfold iv
 rw [show eIv=eInv from by decide +kernel]
theorem ex_plain {X Y Z T:Int} {q:Int × Int} (h:Ex X Y Z T q):X*Z ^ eInv % PP=q.1 % PP∧Y*Z ^ eInv % PP=q.2 % PP:=by
 have k:=pj_plain h.pj
 simp only [iv_eInv] at k
 exact k
theorem add_mod (p q:Int × Int):addX p q % PP=(eadd (-1) d0 einv p q).1 % PP∧addY p q % PP=(eadd (-1) d0 einv p q).2 % PP:=by
 have h:=pAdd_pe p q
 have h1:=cong_dvd h.1
 have h2:=cong_dvd h.2
 unfold pAdd at h1 h2
 simp only [Int.emod_emod_of_dvd _ (Int.dvd_refl PP)] at h1 h2
 exact ⟨h1,h2⟩
theorem ps_ok {p q:Int × Int} (hp:OnP PP (-1) d0 p) (hq:OnP PP (-1) d0 q) :
  psX dGo p.1 p.2 q.1 q.2*psZ dGo p.1 p.2 q.1 q.2 ^ eInv % PP=addX p q % PP∧psY dGo p.1 p.2 q.1 q.2*psZ dGo p.1 p.2 q.1 q.2 ^ eInv % PP=addY p q % PP:=by
 have e:=ex_plain (ex_sum dGo_is hp hq (ex_one p) (ex_one q))
 have a:=add_mod p q
 exact ⟨e.1.trans a.1.symm,e.2.trans a.2.symm⟩
end Go.Proofs.YtnpolopcgmjmnaaGreatDoor
namespace Go.Proofs.YtnpolopcgmjmnaaGreatDoor
set_option maxRecDepth 100000
open Go Go.RowKit
section
variable {P : Program} {ops : Array Oper} {Q : Exit → Act → World → Prop} {md : Region.Mode} {F : Nat → Fact} {a0 : Act} {w0 : World}
def textLate (md : Region.Mode) (ops : Array Oper) (n k x : Nat) : Bool :=
  (ops.all fun o=>o.guard.isNone && (match o.dst with | some d=>decide (d < n) | none=>true))
  && ((List.range ops.size).all fun i=>match ops[i]? with
    | some o => o.after.all (fun e => !Region.binds md e || decide (e.on < i)) && (List.range i).all fun j => match ops[j]? with
      | some x=>x.dst.isNone || o.dst != x.dst
      | none=>true
    | none=>true)
  && decide (ops.size=k+2∧x < k)
  && ((List.range k).all fun j=>j == x || (List.range (k+1)).any fun m=>decide (j < m) && m != x && match ops[m]? with
    | some o=>o.after.any (fun e=>Region.binds md e && e.on == j)
    | none=>false)
  && (match ops[k+1]? with | some o=>o.after.any (fun e=>Region.binds md e && e.on == k) && o.after.any (fun e=>Region.binds md e && e.on == x) | none=>false)
  && (match ops[k]? with | some o=>o.dst.isNone && o.after.all (fun e => !Region.binds md e || e.on != x) | none=>false)
  && ((List.range k).all fun j=>match ops[j]? with | some o=>o.after.all (fun e => !Region.binds md e || e.on != x) | none=>false)
structure TextL (md:Region.Mode) (ops:Array Oper) (n k x:Nat):Prop where
 g:∀ (i:Nat) o,ops[i]?=some o→o.guard=none
 d:∀ (i:Nat) o d,ops[i]?=some o→o.dst=some d→d < n
 a:∀ (i:Nat) o,ops[i]?=some o→∀ e ∈ o.after,Region.binds md e=true→e.on < i
 dx:∀ (i j:Nat) o o' d,ops[i]?=some o→ops[j]?=some o'→i≠j→o.dst=some d→o'.dst≠some d
 k2:ops.size=k+2
 kx:x < k
 c:∀ j,j < k→j≠x→∃ (m:Nat) (o:Oper),j < m∧m≤k∧m≠x∧ops[m]?=some o∧∃ e ∈ o.after,Region.binds md e=true∧e.on=j
 l:∀ o,ops[k+1]?=some o→(∃ e ∈ o.after,Region.binds md e=true∧e.on=k)∧∃ e ∈ o.after,Region.binds md e=true∧e.on=x
 n1:∀ o,ops[k]?=some o→o.dst=none
 f:∀ j o,j≤k→ops[j]?=some o→∀ e ∈ o.after,Region.binds md e=true→e.on≠x
theorem textL_of {n k x:Nat} (h:textLate md ops n k x=true):TextL md ops n k x:=by
  unfold textLate at h
  simp only [Bool.and_eq_true,decide_eq_true_eq] at h
  obtain ⟨⟨⟨⟨⟨⟨h1,h2⟩,h3⟩,h4⟩,h5⟩,h6⟩,h7⟩:=h
  rw [Array.all_eq_true_iff_forall_mem] at h1
  rw [List.all_eq_true] at h2 h4 h7
  have H:∀ (i j:Nat) o o' d,j < i→ops[i]?=some o→ops[j]?=some o'→o.dst=some d→o'.dst≠some d:=by
    intro i j o o' d hij hi hj hd hd'
    have q:=h2 i (List.mem_range.2 (Array.getElem?_eq_some_iff.1 hi).1)
    simp only [hi,Bool.and_eq_true] at q
    have r:=List.all_eq_true.1 q.2 j (List.mem_range.2 hij)
    simp only [hj,hd,hd'] at r
    simp at r
  have ne:∀ (o:Oper),o.after.all (fun e => !Region.binds md e || e.on != x)=true→∀ e ∈ o.after,Region.binds md e=true→e.on≠x:=by
    intro o h e he hb
    have r:=(Array.all_eq_true_iff_forall_mem.1 h) e he
    rw [hb] at r
    simpa using r
  refine ⟨?_,?_,?_,?_,h3.1,h3.2,?_,?_,?_,?_⟩
  · intro i o ho
    have q:=h1 o (Array.mem_of_getElem? ho)
    simp only [Bool.and_eq_true] at q
    exact Option.isNone_iff_eq_none.1 q.1
  · intro i o d ho hd
    have q:=h1 o (Array.mem_of_getElem? ho)
    simp only [Bool.and_eq_true,hd,decide_eq_true_eq] at q
    exact q.2
  · intro i o ho e he hb
    have q:=h2 i (List.mem_range.2 (Array.getElem?_eq_some_iff.1 ho).1)
    simp only [ho,Bool.and_eq_true] at q
    have r:=(Array.all_eq_true_iff_forall_mem.1 q.1) e he
    rw [hb] at r
    simpa using r
  · intro i j o o' d hi hj hij hd hd'
    rcases Nat.lt_or_gt_of_ne hij with h | h
    · exact H j i o' o d h hj hi hd' hd
    · exact H i j o o' d h hi hj hd hd'
  · intro j hj hjx
    have q:=h4 j (List.mem_range.2 hj)
    simp only [Bool.or_eq_true,beq_iff_eq] at q
    rcases q with q | q
    · exact absurd q hjx
    obtain ⟨m,hm,r⟩:=List.any_eq_true.1 q
    simp only [Bool.and_eq_true,decide_eq_true_eq,bne_iff_ne] at r
    cases ho:ops[m]? with
    | none=>rw [ho] at r;simp at r
    | some o =>
      rw [ho] at r
      obtain ⟨e,he,hb⟩:=Array.any_eq_true'.1 r.2
      simp only [Bool.and_eq_true,beq_iff_eq] at hb
      exact ⟨m,o,r.1.1,by have:=List.mem_range.1 hm;omega,r.1.2,ho,e,he,hb.1,hb.2⟩
  · intro o ho
    rw [ho] at h5
    simp only [Bool.and_eq_true] at h5
    obtain ⟨e,he,hb⟩:=Array.any_eq_true'.1 h5.1
    obtain ⟨e',he',hb'⟩:=Array.any_eq_true'.1 h5.2
    simp only [Bool.and_eq_true,beq_iff_eq] at hb hb'
    exact ⟨⟨e,he,hb.1,hb.2⟩,e',he',hb'.1,hb'.2⟩
  · intro o ho
    rw [ho] at h6
    simp only [Bool.and_eq_true] at h6
    exact Option.isNone_iff_eq_none.1 h6.1
  · intro j o hj ho
    rcases Nat.lt_or_ge j k with c | c
    · have q := h7 j (List.mem_range.2 c)
      rw [ho] at q
      exact ne o q
    · obtain rfl : j = k := by omega
      rw [ho] at h6
      simp only [Bool.and_eq_true] at h6
      exact ne o h6.2
theorem any_late {n k x : Nat} (T : TextL md ops n k x) (hn : n ≤ a0.tmps.size) (steps : ∀ i, i < k → StepOk P md ops Q F a0 w0 i) (o1 o2 : Oper) (hk1 : ops[k]? = some o1) (hk2 : ops[k + 1]? = some o2) (dx : Nat) (wx : writes ops x dx = true) (R : Act → World → Prop)
    (hR:∀ a W W' v,Below W.heap.size W W'→R a W→R (a.put (some dx) v) W')
    (sx:∀ j d v w w',waits md ops x j d=true→(F j).p v w→(F j).p v w') (fx:∀ v w w',(F x).p v w→(F x).p v w')
    (fin:∀ a w,Based ops a0 a→Below w0.heap.size w0 w→(∀ i o d,i < k→i≠x→ops[i]?=some o→o.dst=some d→(F i).p (a.tmps.getD d undef) w) →
      ∀ K:Act→World→Prop,(∀ W,Below w0.heap.size w0 W→R a W→K a W)→o1.wp P a w K Q)
    (last:∀ a W,Based ops a0 a→R a W→(F x).p (a.tmps.getD dx undef) W→o2.wp P a W (fun a' w'=>Q .normal a' w') Q) :
    ∀ (fuel:Nat) (listed:Array Bool) (a:Act) (w:World),left listed ops.size≤fuel→Held md ops F a0 w0 listed a w→listed.getD k false=false→listed.getD (k+1) false=false→wpAny P md ops Q fuel listed a w:=by
  obtain ⟨ox,hox,hdx⟩:=writes_is wx
  have hks:k < ops.size:=by have:=T.k2;omega
  have hks':k+1 < ops.size:=by have:=T.k2;omega
  intro fuel
  induction fuel with
  | zero =>
    intro listed a w hl H hk hk'
    have:=left_zero (listed:=listed) (n:=ops.size) (by omega) k hks
    rw [dflt (by rw [H.s];exact hks),hk] at this
    simp at this
  | succ fuel ih =>
    intro listed a w hl H hk hk'
    refine ⟨fun hr=>?_,fun i hi=>?_⟩
    · exfalso
      have hall:∀ m i,i < m→i≤k→listed.getD i false=true:=by
        intro m
        induction m with
        | zero=>intro i hi;omega
        | succ m ihm =>
          intro i hi hik
          rcases Nat.lt_or_ge i m with h1 | h1
          · exact ihm i h1 hik
          · obtain rfl : i = m := by omega
            cases hc:listed.getD i false
            · exfalso
              obtain ⟨o,ho⟩:∃ o,ops[i]?=some o:=⟨ops[i],by simp [show i < ops.size by omega]⟩
              have hr':i ∈ Region.ready md ops listed:=mem_ready.2 ⟨by rw [dflt (by rw [H.s];omega)];exact hc,o,ho,fun e he hb=>ihm e.on (T.a i o ho e he hb) (by have:=T.a i o ho e he hb;omega)⟩
              rw [hr] at hr'
              simp at hr'
            · rfl
      rw [hall (k+1) k (by omega) (Nat.le_refl _)] at hk
      simp at hk
    · obtain ⟨h0, o, ho, hall⟩ := mem_ready.1 hi
      have hlt:=(Array.getElem?_eq_some_iff.1 ho).1
      have hwant:Region.wanted o (yielded ops a.tmps)=true:=by simp [Region.wanted,T.g i o ho]
      refine wpOp_step ho fun K' hK=>?_
      rw [if_pos hwant]
      have hll:=left_set (by rw [H.s];exact hlt) h0 ops.size hlt
      have hfacts:∀ j d,waits md ops i j d=true→(F j).p (a.tmps.getD d undef) w:=by
        intro j d hjd
        unfold waits at hjd
        rw [ho] at hjd
        cases hoj:ops[j]? with
        | none=>rw [hoj] at hjd;simp at hjd
        | some oj =>
          rw [hoj] at hjd
          simp only [Bool.and_eq_true,beq_iff_eq] at hjd
          obtain ⟨e,he,hb⟩:=Array.any_eq_true'.1 hjd.1
          simp only [Bool.and_eq_true,beq_iff_eq] at hb
          exact H.f j oj d hoj (by rw [← hb.2];exact hall e he hb.1) hjd.2
      have TT:TextT md false ops n k:=⟨T.g,T.d,T.a,T.dx,by omega,(fun h=>by cases h),(fun h=>by cases h)⟩
      rcases Nat.lt_or_ge i k with h1 | h1
      · refine steps i h1 o ho a w H.b H.n hfacts K' fun v w' hw hf => ?_
        refine hK _ _ (ih _ _ _ (by omega) (H.nextT TT hn ho hi hw hf) ?_ ?_)
        · rw [getD_off (by omega)]
          exact hk
        · rw [getD_off (by omega)]
          exact hk'
      · rcases Nat.lt_or_ge k i with h2 | h2
        · exfalso
          obtain rfl:i=k+1:=by have:=T.k2;omega
          obtain ⟨⟨e,he,hb,hq⟩,_⟩:=T.l o ho
          have:=hall e he hb
          rw [hq,hk] at this
          simp at this
        · obtain rfl : i = k := by omega
          obtain rfl:=Option.some.inj (hk1.symm.trans ho)
          have hahead:∀ m j,i - j≤m→j < i→j≠x→listed.getD j false=true:=by
            intro m
            induction m with
            | zero=>intro j hm hj;omega
            | succ m ihm =>
              intro j hm hj hjx
              obtain ⟨p,oo,hjp,hpk,hpx,hoo,e,he,hb,rfl⟩:=T.c j hj hjx
              rcases Nat.lt_or_ge p i with h1 | h1
              · exact H.c p oo hoo (ihm p (by omega) h1 hpx) e he hb
              · obtain rfl : p = i := by omega
                obtain rfl:=Option.some.inj (ho.symm.trans hoo)
                exact hall e he hb
          have q:=fin a w H.b H.n (fun j oj d hj hjx hoj hd=>H.f j oj d hoj (hahead (i - j) j (Nat.le_refl _) hj hjx) hd)
          refine q _ fun W hW hRW=>hK _ _ ?_
          have hs2:(listed.setIfInBounds i true).size=ops.size:=by simp [H.s]
          have g1:(listed.setIfInBounds i true).getD (i+1) true=false:=by
            rw [getD_off (by omega),dflt (by rw [H.s];exact hks')]
            exact hk'
          have hall2:∀ j,j≠i+1→j≠x→j < ops.size→(listed.setIfInBounds i true).getD j true=true:=by
            intro j hj hjx hjs
            by_cases e:i=j
            · subst e
              exact getD_same (by rw [H.s];exact hlt) _
            · rw [getD_off e, dflt (by rw [H.s]; exact hjs)]
              exact hahead (i - j) j (Nat.le_refl _) (by have:=T.k2;omega) hjx
          have gx:(listed.setIfInBounds i true).getD x true=listed.getD x false:=by
            rw [getD_off (by have:=T.kx;omega),dflt (by rw [H.s];have:=T.kx;omega)]
          -- the last one alone is left
          have fin2 : ∀ (l2 : Array Bool) (fuel : Nat) (b : Act) (V : World), l2.size = ops.size → (∀ j, j ≠ i + 1 → j < ops.size → l2.getD j true = true) → l2.getD (i + 1) true = false → left l2 ops.size ≤ fuel → Based ops a0 b → R b V → (F x).p (b.tmps.getD dx undef) V → wpAny P md ops Q fuel l2 b V := by
            intro l2 fuel b V hs2 hl2 hg hf hb hRb hfx
            have l1:0 < left l2 ops.size:=by
              rcases Nat.eq_zero_or_pos (left l2 ops.size) with z | z
              · have := left_zero (n := ops.size) z (i + 1) hks'
                rw [hg] at this
                simp at this
              · exact z
            obtain ⟨f2,rfl⟩:∃ f2,fuel=f2+1:=⟨fuel - 1,by omega⟩
            refine ⟨fun hr=>?_,fun j hj=>?_⟩
            · exfalso
              have hr':i+1 ∈ Region.ready md ops l2:=mem_ready.2 ⟨hg,o2,hk2,fun e he hb=>by
                have:=T.a (i+1) o2 hk2 e he hb
                rw [← dflt (by rw [hs2];omega)]
                exact hl2 e.on (by omega) (by omega)⟩
              rw [hr] at hr'
              simp at hr'
            · obtain ⟨g0, oj, hoj, _⟩ := mem_ready.1 hj
              have hjl:=(Array.getElem?_eq_some_iff.1 hoj).1
              by_cases e:j=i+1
              · subst e
                obtain rfl:=Option.some.inj (hk2.symm.trans hoj)
                have hwant2:Region.wanted o2 (yielded ops b.tmps)=true:=by simp [Region.wanted,T.g (i+1) o2 hk2]
                refine wpOp_step hk2 fun K2 hK2=>?_
                rw [if_pos hwant2]
                refine Oper.wp_mono (fun a2 w2 h2'=>hK2 _ _ (wpAny_done ?_ h2' f2)) (last b V hb hRb hfx)
                cases hr:Region.ready md ops (l2.setIfInBounds (i+1) true) with
                | nil=>rfl
                | cons m t =>
                  exfalso
                  have hm:m ∈ Region.ready md ops (l2.setIfInBounds (i+1) true):=by rw [hr];simp
                  obtain ⟨q0,om,hom,_⟩:=mem_ready.1 hm
                  have hml:=(Array.getElem?_eq_some_iff.1 hom).1
                  by_cases e:i+1=m
                  · subst e
                    rw [getD_same (by rw [hs2];exact hks')] at q0
                    simp at q0
                  · rw [getD_off e, hl2 m (by omega) hml] at q0
                    simp at q0
              · exfalso
                rw [hl2 j e hjl] at g0
                simp at g0
          cases hxl:listed.getD x false with
          | true =>
            refine fin2 _ fuel a W hs2 (fun j hj hjs=>?_) g1 (by omega) H.b hRW (fx _ w _ (H.f x ox dx hox hxl hdx))
            by_cases c:j=x
            · rw [c,gx,hxl]
            · exact hall2 j hj c hjs
          | false =>
            have hxs:x < ops.size:=by have:=T.kx;omega
            have l1:0 < left (listed.setIfInBounds i true) ops.size:=by
              rcases Nat.eq_zero_or_pos (left (listed.setIfInBounds i true) ops.size) with z | z
              · have := left_zero (n := ops.size) z (i + 1) hks'
                rw [g1] at this
                simp at this
              · exact z
            obtain ⟨f2,rfl⟩:∃ f2,fuel=f2+1:=⟨fuel - 1,by omega⟩
            generalize hl2:listed.setIfInBounds i true=l2 at *
            have rx:x ∈ Region.ready md ops l2:=mem_ready.2 ⟨by rw [gx,hxl],ox,hox,fun e he hb=>by
              have h1:=T.a x ox hox e he hb
              rw [← dflt (by rw [hs2];omega)]
              exact hall2 e.on (by have:=T.kx;omega) (by omega) (by omega)⟩
            refine ⟨fun hr=>?_,fun j hj=>?_⟩
            · exfalso
              rw [hr] at rx
              simp at rx
            · obtain ⟨g0, oj, hoj, hready⟩ := mem_ready.1 hj
              have hjl:=(Array.getElem?_eq_some_iff.1 hoj).1
              by_cases e:j=x
              · subst e
                obtain rfl:=Option.some.inj (hox.symm.trans hoj)
                have hwant2:Region.wanted ox (yielded ops a.tmps)=true:=by simp [Region.wanted,T.g j ox hox]
                refine wpOp_step hox fun K2 hK2=>?_
                rw [if_pos hwant2]
                have hll2:=left_set (by rw [hs2];exact hxs) g0 ops.size hxs
                refine steps j T.kx ox hox a W H.b hW (fun p d hpd=>?_) K2 fun v w' hw hf=>?_
                · unfold waits at hpd
                  rw [hox] at hpd
                  cases hop:ops[p]? with
                  | none=>rw [hop] at hpd;simp at hpd
                  | some op =>
                    have hpd0:=hpd
                    rw [hop] at hpd
                    simp only [Bool.and_eq_true,beq_iff_eq] at hpd
                    obtain ⟨e,he,hb⟩:=Array.any_eq_true'.1 hpd.1
                    simp only [Bool.and_eq_true,beq_iff_eq] at hb
                    have h1:=T.a j ox hox e he hb.1
                    have hw':waits md ops j p d=true:=by
                      unfold waits
                      rw [hox,hop]
                      simp only [Bool.and_eq_true,beq_iff_eq]
                      exact hpd
                    exact sx p d _ w W hw' (H.f p op d hop (hahead (i - p) p (Nat.le_refl _) (by have:=T.kx;omega) (by omega)) hpd.2)
                · refine hK2 _ _ (fin2 (l2.setIfInBounds j true) f2 _ _ (by simp [hs2]) (fun m hm hms => ?_) ?_ (by omega) ?_ ?_ ?_)
                  · by_cases c : j = m
                    · subst c
                      exact getD_same (by rw [hs2];exact hxs) _
                    · rw [getD_off c]
                      exact hall2 m hm (Ne.symm c) hms
                  · rw [getD_off (by have := T.kx; omega)]
                    exact g1
                  · exact H.b.put hox v
                  · rw [hdx]
                    exact hR a W w' v hw hRW
                  · rw [hdx, put_at (by rw [H.b.2.1]; exact Nat.lt_of_lt_of_le (T.d j ox dx hox hdx) hn)]
                    exact hf
              · exfalso
                by_cases e2:j=i+1
                · subst e2
                  obtain rfl:=Option.some.inj (hk2.symm.trans hoj)
                  obtain ⟨_,⟨e3,he3,hb3,hq3⟩⟩:=T.l o2 hk2
                  have:=hready e3 he3 hb3
                  rw [hq3,← dflt (by rw [hs2];exact hxs),gx,hxl] at this
                  simp at this
                · rw [hall2 j e2 e hjl] at g0
                  simp at g0
theorem region_late {id:Nat} {w:World} (k x:Nat) (F:Nat→Fact) (hm:P.follows .mixedOrders=true) (hT:textLate .any ops a0.tmps.size k x=true) (steps:∀ i,i < k→StepOk P .any ops Q F a0 w i) (o1 o2:Oper) (hk1:ops[k]?=some o1) (hk2:ops[k+1]?=some o2) (dx:Nat) (wx:writes ops x dx=true) (R:Act→World→Prop)
  (hR:∀ a W W' v,Below W.heap.size W W'→R a W→R (a.put (some dx) v) W')
  (sx:∀ j d v w w',waits .any ops x j d=true→(F j).p v w→(F j).p v w') (fx:∀ v w w',(F x).p v w→(F x).p v w')
  (fin:∀ a W,Based ops a0 a→Below w.heap.size w W→(∀ i d,decide (i < k∧i≠x)=true→writes ops i d=true→(F i).p (a.tmps.getD d undef) W) →
   ∀ K:Act→World→Prop,(∀ W',Below w.heap.size w W'→R a W'→K a W')→o1.wp P a W K Q)
  (last:∀ a W,Based ops a0 a→R a W→(F x).p (a.tmps.getD dx undef) W→o2.wp P a W (fun a' w'=>Q .normal a' w') Q):(Code.region id ops true).wp P Q a0 w:=by
 have T:=textL_of hT
 have z:∀ j,(Array.replicate ops.size false).getD j false=false:=fun j=>by
  rw [Array.getD_eq_getD_getElem?,Array.getElem?_replicate]
  split <;> rfl
 refine wp_region_any hm ?_
 refine any_late (w0:=w) T (Nat.le_refl _) steps o1 o2 hk1 hk2 dx wx R hR sx fx (fun a W hb hw hf=>fin a W hb hw (fun i d hi hd=>?_)) last ops.size _ a0 _ ?_ ⟨⟨rfl,rfl,fun _ _=>rfl⟩,(Below.refl _ _).drew,?_,?_,by simp⟩ (z k) (z (k+1))
 ·obtain ⟨o, ho, hd'⟩ := writes_is hd
  have c:=of_decide_eq_true hi
  exact hf i o d c.1 c.2 ho hd'
 ·have : ∀ m, left (Array.replicate ops.size false) m ≤ m := by
   intro m
   induction m with
   | zero=>exact Nat.le_refl _
   | succ m ih=>unfold left;split <;> omega
  exact this _
 ·intro i o d ho hl _
  rw [z] at hl
  simp at hl
 ·intro i o ho hl
  rw [z] at hl
  simp at hl
theorem puts_late {n k x : Nat} (hT : textLate md ops n k x = true) (hn : n = a0.tmps.size) {a : Act} (hb : Based ops a0 a) (vs : Nat → Value) (hv : ∀ d, a.tmps.getD d undef = vs d) : a = puts vs a0 ops.toList := by
 have T:=textL_of hT
 have hin:∀ o ∈ ops.toList,∀ e,o.dst=some e→e < a0.tmps.size:=fun o ho e he=>by
  obtain ⟨i,hi⟩:=List.getElem?_of_mem ho
  have:=T.d i o e (by simpa using hi) he
  rw [hn] at this
  exact this
 obtain ⟨s1,s2⟩:=puts_size vs ops.toList a0
 obtain ⟨ta,da⟩:=a
 obtain ⟨h1,h2,h3⟩:=hb
 have e1:ta=(puts vs a0 ops.toList).tmps:=by
  apply Array.ext
  ·rw [s1];exact h2
  ·intro i hi hi'
   have g:=puts_get vs i ops.toList a0 hin
   have l:ta[i]=ta.getD i undef:=by simp [Array.getD_eq_getD_getElem?,hi]
   have r:(puts vs a0 ops.toList).tmps[i]=(puts vs a0 ops.toList).tmps.getD i undef:=by simp only [Array.getD_eq_getD_getElem?,Array.getElem?_eq_getElem hi',Option.getD_some]
   rw [l,r,g]
   by_cases c:ops.toList.any (fun o=>o.dst == some i)=true
   ·rw [if_pos c];exact hv i
   ·rw [if_neg c]
    refine h3 i ?_
    unfold apart
    rw [Array.all_eq_true_iff_forall_mem]
    intro o ho
    have hne:¬ (o.dst == some i)=true:=fun x=>c (List.any_eq_true.2 ⟨o,by simpa using ho,x⟩)
    simpa using hne
 have e2:da=(puts vs a0 ops.toList).defers:=h1.trans s2.symm
 subst e1
 subst e2
 rfl
end
end Go.Proofs.YtnpolopcgmjmnaaGreatDoor
namespace Go.Proofs.YtnpolopcgmjmnaaGreatDoor
set_option maxRecDepth 100000
open Go.RowKit
theorem Blk.l5 {w:World} {g:Nat} {u:Nat→Int} (h:Blk w g .u64 [u 0,u 1,u 2,u 3,u 4]):w.cell? ⟨g,0,none⟩=some (.int .u64 (u 0))∧w.cell? ⟨g,1,none⟩=some (.int .u64 (u 1))∧w.cell? ⟨g,2,none⟩=some (.int .u64 (u 2))∧w.cell? ⟨g,3,none⟩=some (.int .u64 (u 3))∧w.cell? ⟨g,4,none⟩=some (.int .u64 (u 4)):=h.f5.1
abbrev put5 (W:World) (p:Nat) (u:Nat→Int):World:=((((W.setCell ⟨p,0,none⟩ (.int .u64 (u 0))).setCell ⟨p,1,none⟩ (.int .u64 (u 1))).setCell ⟨p,2,none⟩ (.int .u64 (u 2))).setCell ⟨p,3,none⟩ (.int .u64 (u 3))).setCell ⟨p,4,none⟩ (.int .u64 (u 4))
theorem put5_same {W:World} {p:Nat} {a b c d e:Int} (u:Nat→Int) (h:Blk W p .u64 [a,b,c,d,e]):Blk (put5 W p u) p .u64 [u 0,u 1,u 2,u 3,u 4] :=
 ((((h.store 0 _).store 1 _).store 2 _).store 3 _).store 4 _
theorem bset {W:World} {g p i:Nat} {k:IntKind} {ys:List Int} {v:Value} (h:Blk W g k ys) (hne:g≠p):Blk (W.setCell ⟨p,i,none⟩ v) g k ys:=h.of_block (heap_setCell_other W ⟨p,i,none⟩ g v hne)
theorem put5_keep {W:World} {p g:Nat} {k:IntKind} {ys:List Int} {u:Nat→Int} (h:Blk W g k ys) (hne:g≠p):Blk (put5 W p u) g k ys:=bset (bset (bset (bset (bset h hne) hne) hne) hne) hne
def RootOut (A:Int) (r:Ending):Prop:=(r1I A*r1I A % PP=A∧∃ t,r = .returned (.tuple #[ag5 t,.bool true])∧Lm t∧sv t 5=fin2 (r1I A))∨(¬ r1I A*r1I A % PP=A∧r = .returned (.tuple #[ag5 z5e,.bool false]))
set_option maxHeartbeats 8000000 in
theorem root_any (w : World) (e : Nat → Int) (he : Elm e) (hR : HasR w) :
  Calls Tryz.prog 107 #[ag5 e] w fun r w'=>RootOut (sv e 5) r∧Below w.heap.size w w':=by
 have heL:=he.1
 have B0:=blk_box w .u64 83 (e 0) (e 1) (e 2) (e 3) (e 4)
 have n0:Below w.heap.size w (w.alloc (.cells #[.int .u64 (e 0),.int .u64 (e 1),.int .u64 (e 2),.int .u64 (e 3),.int .u64 (e 4)] 83)):=(Below.refl _ _).alloc (Nat.le_refl _) _
 have s0:(w.alloc (.cells #[.int .u64 (e 0),.int .u64 (e 1),.int .u64 (e 2),.int .u64 (e 3),.int .u64 (e 4)] 83)).heap.size=w.heap.size+1:=by simp
 have CH:=fun W (h:Below w.heap.size w W)=>chain_any W e he 12 2 2 (by omega) (by omega) (by omega) (hR.up h).1
 rw [eRt_ok] at CH
 simp only [ag5] at CH ⊢
 go_enter Tryz.func107,Tryz.ntmps107
 go_upto_region 1 with fail
 generalize w.alloc (.cells #[.int .u64 (e 0),.int .u64 (e 1),.int .u64 (e 2),.int .u64 (e 3),.int .u64 (e 4)] 83)=wa at *
 have B1:=blk_box wa .u64 83 0 0 0 0 0
 have n1:Below wa.heap.size wa (wa.alloc (.cells #[.int .u64 0,.int .u64 0,.int .u64 0,.int .u64 0,.int .u64 0] 83)):=(Below.refl _ _).alloc (Nat.le_refl _) _
 rw [s0] at B1
 generalize wa.alloc (.cells #[.int .u64 0,.int .u64 0,.int .u64 0,.int .u64 0,.int .u64 0] 83)=wb at *
 have N1:=nxt n0 n1
 obtain ⟨⟨q0,q1,q2,q3,q4⟩,_⟩:=(B0.up n1).f5
 obtain ⟨i0,i1,i2⟩:=(hR.up N1).2.1
 have E0:=B0.up n1
 clear n0 n1 s0 B0
 go_wp2_with fail
 refine (CH wb N1).mono ?_
 rintro r w1 ⟨t,rfl,L,V,n2⟩
 have N2:=nxt N1 n2
 have E02:=E0.up n2
 have E12:=B1.up n2
 have T:=blk_box w1 .u64 83 (t 0) (t 1) (t 2) (t 3) (t 4)
 have n3:Below w1.heap.size w1 (w1.alloc (.cells #[.int .u64 (t 0),.int .u64 (t 1),.int .u64 (t 2),.int .u64 (t 3),.int .u64 (t 4)] 83)):=(Below.refl _ _).alloc (Nat.le_refl _) _
 have VR:Hid (sv t 5=rtR (sv e 5)):=V
 have zz:=E12.lt
 clear CH V q0 q1 q2 q3 q4 i0 i1 i2 E0 B1 N1 n2
 go_upto_region 2 with fail
 have E03:=E02.up n3
 have E13:=E12.up n3
 have N3:=nxt N2 n3
 generalize w1.alloc (.cells #[.int .u64 (t 0),.int .u64 (t 1),.int .u64 (t 2),.int .u64 (t 3),.int .u64 (t 4)] 83)=wr at *
 generalize w1.heap.size=pr at *
 have CE:Hid (∀ W,Below wr.heap.size wr W→(W.cell? ⟨pr,0,none⟩=some (.int .u64 (t 0))∧W.cell? ⟨pr,1,none⟩=some (.int .u64 (t 1))∧W.cell? ⟨pr,2,none⟩=some (.int .u64 (t 2))∧W.cell? ⟨pr,3,none⟩=some (.int .u64 (t 3))∧W.cell? ⟨pr,4,none⟩=some (.int .u64 (t 4)))∧(W.cell? ⟨w.heap.size,0,none⟩=some (.int .u64 (e 0))∧W.cell? ⟨w.heap.size,1,none⟩=some (.int .u64 (e 1))∧W.cell? ⟨w.heap.size,2,none⟩=some (.int .u64 (e 2))∧W.cell? ⟨w.heap.size,3,none⟩=some (.int .u64 (e 3))∧W.cell? ⟨w.heap.size,4,none⟩=some (.int .u64 (e 4)))):=fun W n=>⟨(T.up n).f5.1,(E03.up n).f5.1⟩
 have SQ:Hid (∀ W,Below wr.heap.size wr W→Calls Tryz.prog 102 #[.agg #[.int .u64 (t 0),.int .u64 (t 1),.int .u64 (t 2),.int .u64 (t 3),.int .u64 (t 4)]] W fun r w'=>∃ u,r = .returned (.agg #[.int .u64 (u 0),.int .u64 (u 1),.int .u64 (u 2),.int .u64 (u 3),.int .u64 (u 4)])∧Hid (Lm u∧sv u 5=sv t 5*sv t 5 % PP)∧Below wr.heap.size wr w'):=by
  intro W n
  refine (square_any W t L).mono ?_
  rintro r w' ⟨u,rfl,Lu,Vu,n'⟩
  exact ⟨u,rfl,⟨Lu,Vu⟩,nxt n n'⟩
 have NG:Hid (∀ W,Below wr.heap.size wr W→Calls Tryz.prog 108 #[.agg #[.int .u64 (e 0),.int .u64 (e 1),.int .u64 (e 2),.int .u64 (e 3),.int .u64 (e 4)]] W fun r w'=>∃ u,r = .returned (.agg #[.int .u64 (u 0),.int .u64 (u 1),.int .u64 (u 2),.int .u64 (u 3),.int .u64 (u 4)])∧Hid (Lm u∧sv u 5=(0 - sv e 5) % PP)∧Below wr.heap.size wr w'):=by
  intro W n
  refine (negate_any W e heL ((hR.up (nxt N3 n)).2.2.2)).mono ?_
  rintro r w' ⟨u,rfl,Lu,Vu,n'⟩
  exact ⟨u,rfl,⟨Lu,Vu⟩,nxt n n'⟩
 have nd:Below wr.heap.size wr wr.drew:=(Below.refl _ _).drew
 have EQ:=eqElem
 go_cut [12] (fun v wc=>v = .bool (decide (rtR (sv e 5)*rtR (sv e 5) % PP=(0 - sv e 5) % PP))∧Below wr.heap.size wr wc)
 case first =>
  go_region_held3 (fun W=>(W.cell? ⟨pr,0,none⟩=some (.int .u64 (t 0))∧W.cell? ⟨pr,1,none⟩=some (.int .u64 (t 1))∧W.cell? ⟨pr,2,none⟩=some (.int .u64 (t 2))∧W.cell? ⟨pr,3,none⟩=some (.int .u64 (t 3))∧W.cell? ⟨pr,4,none⟩=some (.int .u64 (t 4)))∧(W.cell? ⟨w.heap.size,0,none⟩=some (.int .u64 (e 0))∧W.cell? ⟨w.heap.size,1,none⟩=some (.int .u64 (e 1))∧W.cell? ⟨w.heap.size,2,none⟩=some (.int .u64 (e 2))∧W.cell? ⟨w.heap.size,3,none⟩=some (.int .u64 (e 3))∧W.cell? ⟨w.heap.size,4,none⟩=some (.int .u64 (e 4))))
   (first | exact (unhide CE) _ nd | exact (unhide CE) _ ns | exact (unhide CE) _ nm)
   (first
    | (go_at_call 102;refine ((unhide SQ) _ (by first | exact nd | exact nm)).mono ?_;rintro r ws ⟨u,rfl,LU,ns⟩)
    | (go_at_call 108;refine ((unhide NG) _ (by first | exact nd | exact ns)).mono ?_;rintro r wm ⟨v,rfl,LV,nm⟩))
  all_goals
   have BB:Hid ((u 0 == v 0 && u 1 == v 1 && u 2 == v 2 && u 3 == v 3 && u 4 == v 4)=decide (rtR (sv e 5)*rtR (sv e 5) % PP=(0 - sv e 5) % PP)):=by
    show _=_
    rw [eq_Lm LU.out.1 LV.out.1,LU.out.2,LV.out.2,VR.out]
   clear SQ NG CE EQ
   go_wp2_with fail
   go_meet
   first
    | exact ⟨congrArg Value.bool BB.out,nm⟩
    | exact ⟨congrArg Value.bool BB.out,ns⟩
 case rest =>
  obtain ⟨rfl,nc⟩:=hcut
  have T4:=T.up nc
  have E04:=E03.up nc
  have E14:=E13.up nc
  have N4:=nxt N3 nc
  have hR4:=hR.up N4
  have MU:=fun W=>mulE_any W t iL L iL_lm
  rw [iL_val] at MU
  obtain ⟨j0,j1,j2,j3,j4⟩:wc.cell? ⟨11,0,none⟩=some (.int .u64 (iL 0))∧wc.cell? ⟨11,1,none⟩=some (.int .u64 (iL 1))∧wc.cell? ⟨11,2,none⟩=some (.int .u64 (iL 2))∧wc.cell? ⟨11,3,none⟩=some (.int .u64 (iL 3))∧wc.cell? ⟨11,4,none⟩=some (.int .u64 (iL 4)) :=
   ⟨hR4.2.2.1 0 (by omega),hR4.2.2.1 1 (by omega),hR4.2.2.1 2 (by omega),hR4.2.2.1 3 (by omega),hR4.2.2.1 4 (by omega)⟩
  obtain ⟨il,hil⟩:∃ f,f=iL:=⟨_,rfl⟩
  rw [← hil] at MU j0 j1 j2 j3 j4
  have ple:=T4.lt
  have pe:=E04.lt
  clear hil SQ NG CE nd T E02 E12 E03 E13 N2 N3 nc n3
  simp only [ag5] at MU
  have KR:Hid (sv t 5=rtR (sv e 5)):=VR
  go_upto_if 12 with fail
  go_cut [] (fun wc=>∃ t1,Blk wc pr .u64 [t1 0,t1 1,t1 2,t1 3,t1 4]∧Lm t1∧Hid (sv t1 5=r1I (sv e 5))∧Blk wc w.heap.size .u64 [e 0,e 1,e 2,e 3,e 4]∧Blk wc (w.heap.size+1) .u64 [0,0,0,0,0]∧Below w.heap.size w wc)
  case first =>
   by_cases cc:rtR (sv e 5)*rtR (sv e 5) % PP=(0 - sv e 5) % PP
   ·have k1 : Hid (r1I (sv e 5) = sv t 5 * iM % PP) := by show _ = _; rw [KR.out, r1I, if_pos cc]
    rw [decide_eq_true cc]
    clear cc
    obtain ⟨y0,y1,y2,y3,y4⟩:=T4.f5.1
    go_wp2_with fail
    refine (MU wc).mono ?_
    rintro r wm ⟨t1,rfl,L1,V1,nm⟩
    obtain ⟨⟨z0,z1,z2,z3,z4⟩,⟨f0,f1,f2,f3,f4⟩⟩:=(T4.up nm).f5
    have S0:=put5_same t1 (T4.up nm)
    have S1:=put5_keep (p:=pr) (u:=t1) (E04.up nm) (by omega)
    have S2:=put5_keep (p:=pr) (u:=t1) (E14.up nm) (by omega)
    have S3:Below w.heap.size w (put5 wm pr t1):=below_set5 (nxt N4 nm) (by omega) _ _ _ _ _
    have V1':Hid (sv t1 5=r1I (sv e 5)):=by rw [k1.out];exact V1
    clear MU j0 j1 j2 j3 j4 V1 y0 y1 y2 y3 y4
    go_wp2_with fail
    go_meet
    exact ⟨t1,S0,L1,V1',S1,S2,S3⟩
   ·have k1 : Hid (sv t 5 = r1I (sv e 5)) := by show _ = _; rw [KR.out, r1I, if_neg cc]
    rw [decide_eq_false cc]
    clear cc
    go_wp2_with fail
    go_meet
    exact ⟨t,T4,L,k1,E04,E14,N4⟩
  case rest =>
   clear T4 E04 E14 MU j0 j1 j2 j3 j4 N4 hR4 KR VR L
   obtain ⟨t1,T1,L1,V1,E0,E1,N5⟩:=hcut
   have zr:=T1.lt
   have CE:Hid (∀ W,Below wc.heap.size wc W→(W.cell? ⟨pr,0,none⟩=some (.int .u64 (t1 0))∧W.cell? ⟨pr,1,none⟩=some (.int .u64 (t1 1))∧W.cell? ⟨pr,2,none⟩=some (.int .u64 (t1 2))∧W.cell? ⟨pr,3,none⟩=some (.int .u64 (t1 3))∧W.cell? ⟨pr,4,none⟩=some (.int .u64 (t1 4)))∧(W.cell? ⟨w.heap.size,0,none⟩=some (.int .u64 (e 0))∧W.cell? ⟨w.heap.size,1,none⟩=some (.int .u64 (e 1))∧W.cell? ⟨w.heap.size,2,none⟩=some (.int .u64 (e 2))∧W.cell? ⟨w.heap.size,3,none⟩=some (.int .u64 (e 3))∧W.cell? ⟨w.heap.size,4,none⟩=some (.int .u64 (e 4)))):=fun W n=>⟨(T1.up n).f5.1,(E0.up n).f5.1⟩
   have SQ:Hid (∀ W,Below wc.heap.size wc W→Calls Tryz.prog 102 #[.agg #[.int .u64 (t1 0),.int .u64 (t1 1),.int .u64 (t1 2),.int .u64 (t1 3),.int .u64 (t1 4)]] W fun r w'=>∃ u,r = .returned (.agg #[.int .u64 (u 0),.int .u64 (u 1),.int .u64 (u 2),.int .u64 (u 3),.int .u64 (u 4)])∧Hid (Lm u∧sv u 5=sv t1 5*sv t1 5 % PP)∧Below wc.heap.size wc w'):=by
    intro W n
    refine (square_any W t1 L1).mono ?_
    rintro r w' ⟨u,rfl,Lu,Vu,n'⟩
    exact ⟨u,rfl,⟨Lu,Vu⟩,nxt n n'⟩
   have nd:Below wc.heap.size wc wc.drew:=(Below.refl _ _).drew
   go_upto_region 4 with fail
   go_cut [19] (fun v wd=>v = .bool (!decide (r1I (sv e 5)*r1I (sv e 5) % PP=sv e 5))∧Below wc.heap.size wc wd)
   case first =>
    go_region_held3 (fun W=>(W.cell? ⟨pr,0,none⟩=some (.int .u64 (t1 0))∧W.cell? ⟨pr,1,none⟩=some (.int .u64 (t1 1))∧W.cell? ⟨pr,2,none⟩=some (.int .u64 (t1 2))∧W.cell? ⟨pr,3,none⟩=some (.int .u64 (t1 3))∧W.cell? ⟨pr,4,none⟩=some (.int .u64 (t1 4)))∧(W.cell? ⟨w.heap.size,0,none⟩=some (.int .u64 (e 0))∧W.cell? ⟨w.heap.size,1,none⟩=some (.int .u64 (e 1))∧W.cell? ⟨w.heap.size,2,none⟩=some (.int .u64 (e 2))∧W.cell? ⟨w.heap.size,3,none⟩=some (.int .u64 (e 3))∧W.cell? ⟨w.heap.size,4,none⟩=some (.int .u64 (e 4))))
     (first | exact (unhide CE) _ nd | exact (unhide CE) _ ns)
     (first
      | (go_at_call 102;refine ((unhide SQ) _ nd).mono ?_;rintro r ws ⟨u,rfl,LU,ns⟩))
    all_goals
     have BB:Hid ((u 0 == e 0 && u 1 == e 1 && u 2 == e 2 && u 3 == e 3 && u 4 == e 4)=decide (r1I (sv e 5)*r1I (sv e 5) % PP=sv e 5)):=by
      show _=_
      rw [eq_Lm LU.out.1 heL,LU.out.2,V1.out]
     clear SQ CE EQ
     go_wp2_with fail
     go_meet
     exact ⟨by rw [← BB.out];simp only [Bool.not_and],ns⟩
   case rest =>
    obtain ⟨rfl,nc⟩:=hcut
    have T6:=T1.up nc
    have E6:=E1.up nc
    have N6:=nxt N5 nc
    clear SQ CE EQ nd T1 E0 E1 N5 nc
    by_cases gg:r1I (sv e 5)*r1I (sv e 5) % PP=sv e 5
    ·have G : Hid (r1I (sv e 5) * r1I (sv e 5) % PP = sv e 5) := gg
     rw [decide_eq_true gg]
     clear gg
     have EV:=fun W=>isEven_any W t1 L1
     obtain ⟨y0,y1,y2,y3,y4⟩:=T6.f5.1
     by_cases ev:sv t1 5 % 2=0
     ·have K : Hid (sv t1 5 = fin2 (r1I (sv e 5))) := by show _ = _; rw [← V1.out, fin2, if_pos ev]
      rw [decide_eq_true ev] at EV
      clear ev
      simp only [ag5] at EV
      go_wp2_with fail
      refine (EV _).mono ?_
      rintro r w7 ⟨rfl,n7⟩
      have N7:=nxt N6 n7
      obtain ⟨⟨p0,p1,p2,p3,p4⟩,⟨g0,g1,g2,g3,g4⟩⟩:=(E6.up n7).f5
      obtain ⟨x0,x1,x2,x3,x4⟩:=(T6.up n7).f5.1
      clear EV y0 y1 y2 y3 y4 T6 E6 N6 n7
      go_wp2
      refine bodyPost_ret (v := .tuple #[ag5 t1,.bool true]) (by simp [ag5,results,Tryz.results107,go_sem,p0,p1,p2,p3,p4]) rfl ⟨Or.inl ⟨G.out,t1,rfl,L1,K.out⟩,?_⟩
      exact below_set5 N7 (by omega) _ _ _ _ _
     ·have K : Hid ((0 - sv t1 5) % PP = fin2 (r1I (sv e 5))) := by show _ = _; rw [← V1.out, fin2, if_neg ev]
      rw [decide_eq_false ev] at EV
      clear ev
      simp only [ag5] at EV
      go_wp2_with fail
      refine (EV _).mono ?_
      rintro r w7 ⟨rfl,n7⟩
      have N7:=nxt N6 n7
      have E7:=E6.up n7
      have T7:=T6.up n7
      obtain ⟨x0,x1,x2,x3,x4⟩:=T7.f5.1
      have NG:=fun W (h:Below w.heap.size w W)=>negate_any W t1 L1 ((hR.up h).2.2.2)
      simp only [ag5] at NG
      clear EV y0 y1 y2 y3 y4 T6 E6 N6 n7
      go_wp2_with fail
      refine (NG w7 N7).mono ?_
      rintro r w8 ⟨t2,rfl,L2,W2,n8⟩
      have K2:Hid (sv t2 5=fin2 (r1I (sv e 5))):=by rw [← K.out];exact W2
      have N8:=nxt N7 n8
      obtain ⟨⟨z0,z1,z2,z3,z4⟩,⟨f0,f1,f2,f3,f4⟩⟩:=(T7.up n8).f5
      have S0:=put5_same t2 (T7.up n8)
      have S2:=put5_keep (p:=pr) (u:=t2) (E7.up n8) (by omega)
      have S3:Below w.heap.size w (put5 w8 pr t2):=below_set5 N8 (by omega) _ _ _ _ _
      obtain ⟨⟨p0,p1,p2,p3,p4⟩,⟨g0,g1,g2,g3,g4⟩⟩:=S2.f5
      obtain ⟨c0,c1,c2,c3,c4⟩:=S0.f5.1
      clear NG x0 x1 x2 x3 x4 T7 E7 N7 n8 W2 N8 S0 S2
      go_wp2
      refine bodyPost_ret (v := .tuple #[ag5 t2,.bool true]) (by simp [ag5,results,Tryz.results107,go_sem,p0,p1,p2,p3,p4]) rfl ⟨Or.inl ⟨G.out,t2,rfl,L2,K2.out⟩,?_⟩
      exact below_set5 S3 (by omega) _ _ _ _ _
    ·have G : Hid (¬ r1I (sv e 5) * r1I (sv e 5) % PP = sv e 5) := gg
     rw [decide_eq_false gg]
     clear gg
     obtain ⟨⟨p0,p1,p2,p3,p4⟩,⟨g0,g1,g2,g3,g4⟩⟩:=E6.f5
     go_wp2
     refine bodyPost_ret (v := .tuple #[ag5 z5e,.bool false]) (by simp [ag5,z5e,results,Tryz.results107,go_sem,p0,p1,p2,p3,p4]) rfl ⟨Or.inr ⟨G.out,rfl⟩,?_⟩
     exact below_set5 N6 (by omega) _ _ _ _ _
end Go.Proofs.YtnpolopcgmjmnaaGreatDoor
