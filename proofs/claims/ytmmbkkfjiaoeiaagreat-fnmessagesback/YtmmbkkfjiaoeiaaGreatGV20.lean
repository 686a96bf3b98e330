import Derived.Test.YtmmbkkfjiaoeiaaGreatGV19
import Derived.Test.YtmmbkkfjiaoeiaaGreatGV3
namespace Go.Proofs.YtmmbkkfjiaoeiaaGreat
open Go Go.RowKit
theorem reg_nil {k:Int} (h:k ∉ kinds):regV k = .nilFunc:=by
 simp only [kinds,List.mem_cons,List.not_mem_nil,or_false,not_or] at h
 obtain ⟨h1,h2,h4,h5,h8,h11,h15,h20,h24⟩:=h
 unfold regV
 rw [if_neg h1,if_neg h2,if_neg h4,if_neg h5,if_neg h8,if_neg h11,if_neg h15,if_neg h20,if_neg h24]
theorem reg_eq (k:Int) (W:World):(binOp .eql 65 (regV k) .nilFunc).run Tryz.prog W = .ok (.bool (!decide (k ∈ kinds))) W:=by
 by_cases h:k ∈ kinds
 ·have : k = 1 ∨ k = 2 ∨ k = 4 ∨ k = 5 ∨ k = 8 ∨ k = 11 ∨ k = 15 ∨ k = 20 ∨ k = 24 := by simpa [kinds] using h
  rcases this with e | e | e | e | e | e | e | e | e <;> subst e
  ·show (binOp .eql 65 (regV 1) .nilFunc).run Tryz.prog W = .ok (.bool false) W
   kernel_rfl
  ·show (binOp .eql 65 (regV 2) .nilFunc).run Tryz.prog W = .ok (.bool false) W
   kernel_rfl
  ·show (binOp .eql 65 (regV 4) .nilFunc).run Tryz.prog W = .ok (.bool false) W
   kernel_rfl
  ·show (binOp .eql 65 (regV 5) .nilFunc).run Tryz.prog W = .ok (.bool false) W
   kernel_rfl
  ·show (binOp .eql 65 (regV 8) .nilFunc).run Tryz.prog W = .ok (.bool false) W
   kernel_rfl
  ·show (binOp .eql 65 (regV 11) .nilFunc).run Tryz.prog W = .ok (.bool false) W
   kernel_rfl
  ·show (binOp .eql 65 (regV 15) .nilFunc).run Tryz.prog W = .ok (.bool false) W
   kernel_rfl
  ·show (binOp .eql 65 (regV 20) .nilFunc).run Tryz.prog W = .ok (.bool false) W
   kernel_rfl
  ·show (binOp .eql 65 (regV 24) .nilFunc).run Tryz.prog W = .ok (.bool false) W
   kernel_rfl
 ·rw [reg_nil h, show (!decide (k ∈ kinds)) = true by simp [h]]
  kernel_rfl
theorem reg_guard (k:Int) (W:World):(eqGuard BinOp.eql 65 (Operand.tmp 16) (Operand.const Value.nilFunc) (regV k) Value.nilFunc).run Tryz.prog W = .ok () W:=by
 by_cases h:k ∈ kinds
 ·have : k = 1 ∨ k = 2 ∨ k = 4 ∨ k = 5 ∨ k = 8 ∨ k = 11 ∨ k = 15 ∨ k = 20 ∨ k = 24 := by simpa [kinds] using h
  rcases this with e | e | e | e | e | e | e | e | e <;> subst e
  ·show (eqGuard BinOp.eql 65 (Operand.tmp 16) (Operand.const Value.nilFunc) (regV 1) Value.nilFunc).run Tryz.prog W = .ok () W
   kernel_rfl
  ·show (eqGuard BinOp.eql 65 (Operand.tmp 16) (Operand.const Value.nilFunc) (regV 2) Value.nilFunc).run Tryz.prog W = .ok () W
   kernel_rfl
  ·show (eqGuard BinOp.eql 65 (Operand.tmp 16) (Operand.const Value.nilFunc) (regV 4) Value.nilFunc).run Tryz.prog W = .ok () W
   kernel_rfl
  ·show (eqGuard BinOp.eql 65 (Operand.tmp 16) (Operand.const Value.nilFunc) (regV 5) Value.nilFunc).run Tryz.prog W = .ok () W
   kernel_rfl
  ·show (eqGuard BinOp.eql 65 (Operand.tmp 16) (Operand.const Value.nilFunc) (regV 8) Value.nilFunc).run Tryz.prog W = .ok () W
   kernel_rfl
  ·show (eqGuard BinOp.eql 65 (Operand.tmp 16) (Operand.const Value.nilFunc) (regV 11) Value.nilFunc).run Tryz.prog W = .ok () W
   kernel_rfl
  ·show (eqGuard BinOp.eql 65 (Operand.tmp 16) (Operand.const Value.nilFunc) (regV 15) Value.nilFunc).run Tryz.prog W = .ok () W
   kernel_rfl
  ·show (eqGuard BinOp.eql 65 (Operand.tmp 16) (Operand.const Value.nilFunc) (regV 20) Value.nilFunc).run Tryz.prog W = .ok () W
   kernel_rfl
  ·show (eqGuard BinOp.eql 65 (Operand.tmp 16) (Operand.const Value.nilFunc) (regV 24) Value.nilFunc).run Tryz.prog W = .ok () W
   kernel_rfl
 ·rw [reg_nil h]
  kernel_rfl
set_option maxRecDepth 100000 in
set_option maxHeartbeats 4000000 in
theorem bodySize_any (w:World) (mq g:Nat) (a:Option Addr) (c:Nat) (ys:List Int) (hm:w.heap[mq]?=some (.map regE 9)) (hr:Rd w g a .u8 ys) (hb:Byt ys) (hx:ys.length≤1048576) :
  Calls Tryz.prog 48 #[.map (some mq),.slice a ys.length c] w fun e w'=>e = .returned (.tuple #[.int .i64 (if dmP ys=0 then beN ys 1 3 else 0),.int .i64 (dmP ys)])∧Below w.heap.size w w':=by
 by_cases l0:ys.length=0
 ·have eP : Hid (dmP ys = 1) := by show _ = _; unfold dmP; rw [if_pos l0]
  have e:(if dmP ys=0 then beN ys 1 3 else 0)=0:=by rw [eP.out];rfl
  rw [e,eP.out]
  have u1:((ys.length:Int) == 0)=true:=by simp [l0]
  have u2:((ys.length:Int))=0:=by omega
  clear l0 hr
  go_enter Tryz.func48,Tryz.ntmps48
  go_wp2
  go_ret2
  exact ⟨rfl,Below.refl _ _⟩
 have l1:0 < ys.length:=by omega
 have HR:=hide hr
 obtain ⟨off,rfl,hc0⟩:=hr l1
 have x0:w.cell? ⟨g,off,none⟩=some (.int .u8 (ys.getD 0 0)):=hc0 0 l1
 have b0:=hb 0
 have u1:((ys.length:Int) == 0)=false:=beq_eq_false_iff_ne.2 (by omega)
 have u1':¬ (ys.length:Int)=0:=by omega
 obtain ⟨k,ek⟩:∃ k,Hid (ys.getD 0 0=k):=⟨_,rfl⟩
 rw [ek.out] at x0 b0
 have lk:=regLook w mq hm k
 obtain ⟨rv,hrv⟩:∃ v,Hid (regV k=v):=⟨_,rfl⟩
 have re:∀ W,(binOp .eql 65 rv .nilFunc).run Tryz.prog W = .ok (.bool (!decide (k ∈ kinds))) W:=fun W=>by rw [← hrv.out];exact reg_eq k W
 have eg:∀ W,(eqGuard BinOp.eql 65 (Operand.tmp 16) (Operand.const Value.nilFunc) rv Value.nilFunc).run Tryz.prog W = .ok () W:=fun W=>by rw [← hrv.out];exact reg_guard k W
 rw [hrv.out] at lk
 have wk:IntKind.i64.wrap k=k:=by rw [IntKind.wrap_i64];omega
 clear hc0
 by_cases hk:k ∈ kinds
 rotate_left
 ·have eP : Hid (dmP ys = 2) := by show _ = _; unfold dmP; rw [if_neg l0, if_pos (by rw [ek.out]; exact hk)]
  have e:(if dmP ys=0 then beN ys 1 3 else 0)=0:=by rw [eP.out];rfl
  rw [e,eP.out]
  rw [show (!decide (k ∈ kinds))=true by simp [hk]] at re
  clear hk
  go_enter Tryz.func48,Tryz.ntmps48
  go_wp2
  go_ret2
  exact ⟨rfl,Below.refl _ _⟩
 rw [show (!decide (k ∈ kinds))=false by simp [hk]] at re
 by_cases l4:ys.length < 4
 ·have eP : Hid (dmP ys = 1) := by show _ = _; unfold dmP; rw [if_neg l0, if_neg (by rw [ek.out]; exact fun h => h hk), if_pos l4]
  have e:(if dmP ys=0 then beN ys 1 3 else 0)=0:=by rw [eP.out];rfl
  rw [e,eP.out]
  have u2:decide ((ys.length:Int) < 4)=true:=decide_eq_true (by omega)
  have u2':(ys.length:Int) < 4:=by omega
  clear hk l4
  go_enter Tryz.func48,Tryz.ntmps48
  go_wp2
  go_ret2
  exact ⟨rfl,Below.refl _ _⟩
 have u2:decide ((ys.length:Int) < 4)=false:=decide_eq_false (by omega)
 have u2':¬ (ys.length:Int) < 4:=by omega
 have n1:Below w.heap.size w (w.alloc (.cells #[.slice (some ⟨g,off,none⟩) ys.length c,.int .i64 1] 116)):=(Below.refl _ _).alloc (Nat.le_refl _) _
 have C1:Cur (w.alloc (.cells #[.slice (some ⟨g,off,none⟩) ys.length c,.int .i64 1] 116)) w.heap.size (.slice (some ⟨g,off,none⟩) ys.length c) ((1:Nat):Int):=⟨_,RwC.new w _ _⟩
 have gl:=HR.out.lt l1
 have NM:=hide (numberG_any (w.alloc (.cells #[.slice (some ⟨g,off,none⟩) ys.length c,.int .i64 1] 116)) w.heap.size g (some ⟨g,off,none⟩) c ys 1 3 C1 (HR.out.up n1) hb (fun _=>by omega) (by omega) (by omega) (by omega))
 rw [nmV_small hb 1 3 (by decide)] at NM
 have n0:=beN_rng hb 1 3
 obtain ⟨n,hn⟩:=Int.eq_ofNat_of_zero_le n0.1
 have EN:=hide hn
 have nn:n < 16777216:=by omega
 rw [hn] at NM
 have eP0:Hid (dmP ys=if 8192 < n then 2 else if ys.length < 4+n then 1 else 0):=by
  show _=_
  unfold dmP
  rw [if_neg l0,if_neg (by rw [ek.out];exact fun h=>h hk),if_neg l4,hn]
  by_cases h8:8192 < n
  ·rw [if_pos h8,if_pos (by omega)]
  ·rw [if_neg h8, if_neg (by omega)]
   by_cases h9:ys.length < 4+n
   ·rw [if_pos h9,if_pos (by omega)]
   ·rw [if_neg h9,if_neg (by omega)]
 have s5:IntKind.i64.wrap ((ys.length:Int) - 4)=(ys.length:Int) - 4:=by rw [IntKind.wrap_i64];omega
 obtain ⟨R1,r1⟩:∃ r,Hid ((if dmP ys=0 then beN ys 1 3 else 0)=r):=⟨_,rfl⟩
 obtain ⟨R2,r2⟩:∃ r,Hid (dmP ys=r):=⟨_,rfl⟩
 rw [r1.out,r2.out]
 have HN1:=hide n1
 clear hn n0 C1 n1 hk
 go_enter Tryz.func48,Tryz.ntmps48
 go_wp2_with fail
 generalize w.alloc (.cells #[.slice (some ⟨g,off,none⟩) ys.length c,.int .i64 1] 116)=W1 at *
 refine NM.out.mono ?_
 rintro e W2 ⟨rfl,-,O2⟩
 have N2:=hide (HN1.out.trans (O2.below (Nat.le_refl _)))
 clear NM O2 HN1
 by_cases h8:8192 < n
 ·have u4 : decide ((8192 : Int) < (n : Int)) = true := decide_eq_true (by omega)
  have e2:R2=2:=by rw [← r2.out,eP0.out,if_pos h8]
  have e1:R1=0:=by rw [← r1.out,if_neg (by rw [r2.out,e2];decide)]
  subst e1 e2
  clear h8
  go_wp2
  go_ret2
  exact ⟨rfl,N2.out⟩
 have u4:decide ((8192:Int) < (n:Int))=false:=decide_eq_false (by omega)
 by_cases h9:ys.length < 4+n
 ·have u5 : decide ((ys.length : Int) - 4 < (n : Int)) = true := decide_eq_true (by omega)
  have e2:R2=1:=by rw [← r2.out,eP0.out,if_neg h8,if_pos h9]
  have e1:R1=0:=by rw [← r1.out,if_neg (by rw [r2.out,e2];decide)]
  subst e1 e2
  clear h9 h8
  go_wp2
  go_ret2
  exact ⟨rfl,N2.out⟩
 have u5:decide ((ys.length:Int) - 4 < (n:Int))=false:=decide_eq_false (by omega)
 have e2:R2=0:=by rw [← r2.out,eP0.out,if_neg h8,if_neg h9]
 have e1:R1=(n:Int):=by rw [← r1.out,if_pos (by rw [r2.out,e2]),EN.out]
 subst e1 e2
 clear h8 h9
 go_wp2
 go_ret2
 exact ⟨rfl,N2.out⟩
end Go.Proofs.YtmmbkkfjiaoeiaaGreat
namespace Go.Proofs.YtmmbkkfjiaoeiaaGreat
open Go Go.RowKit
def RBe (B:Nat) (xs:List Int):Fact:=⟨fun v W=>RowB W B v xs,fun n h=>RowB.up h n⟩
def PMF (b:Nat) (m:Msg):Fact:=⟨fun v W=>∃ p,v = .agg (mgV p m)∧HasM W p m∧HasZ p m∧TyM W p m∧∀ g,g < b→NoM g p m,fun n h=>by
 obtain ⟨p,e,h1,h2,h3,h4⟩:=h
 exact ⟨p,e,h1.up n,h2,h3.up n,h4⟩⟩
theorem step_newMs {ops:Array Oper} {Q:Exit→Act→World→Prop} {md:Region.Mode} {F:Nat→Fact} {a0:Act} {w0:World} {i:Nat} {o:Oper} (hi:ops[i]?=some o) (hop:o.op = .alloc 26) (hF:F i=NBt w0.heap.size 26 zM):StepOk Tryz.prog md ops Q F a0 w0 i:=by
 refine step_grow hi fun a w _ hw _=>⟨.pointer (some ⟨w.heap.size,0,none⟩),w.alloc (.cells zM.toArray 26),?_,(Below.refl _ _).alloc (Nat.le_refl _) _,?_⟩
 ·simp only [execOp, hop]
  kernel_rfl
 ·rw [hF]
  exact ⟨_,rfl,hw.size,RwC.new w _ _⟩
theorem step_slc {ops:Array Oper} {Q:Exit→Act→World→Prop} {md:Region.Mode} {F:Nat→Fact} {a0:Act} {w0:World} {i:Nat} {o:Oper} (hi:ops[i]?=some o) (t:TypeId) (x:Operand) (lo hh:Option Operand) (hop:o.op = .slice t x lo hh none) (vx:Value) (vl vh:Option Value) (v':Value)
  (G:∀ a w,Based ops a0 a→Below w0.heap.size w0 w→Facts md ops F i a w→a.eval x=vx∧lo.map a.eval=vl∧hh.map a.eval=vh∧(Instr.sliceAt t vx vl vh none).run Tryz.prog w = .ok v' w∧(F i).p v' w):StepOk Tryz.prog md ops Q F a0 w0 i :=
 step_pure hi fun a w hb hw hf=>by
  obtain ⟨e1,e2,e3,hr,hp⟩:=G a w hb hw hf
  refine ⟨v',?_,hp⟩
  unfold execOp
  simp only [hop,e1,e2,e3,Option.map_none]
  rw [Sem.run_bind,hr]
  rfl
theorem one13m (p:MQ) (m:Msg):(mgV p m).all (·.oneCell')=true:=by
 refine all_oneCell_toArray (cs:=[.int .i64 m.k,.int .i64 m.v,.slice p.a2 m.r.length p.c2,.slice p.a3 m.s.length p.c3,.string ⟨⟨m.ho⟩⟩,.slice p.a5 m.pr.length p.c5,.slice p.a6 m.ti.length p.c6,.int .i64 m.ag,.int .i64 m.ea,.slice p.a9 m.bi.length p.c9,.bool m.rs,.slice p.a11 m.ce.length p.c11,.slice p.a12 m.pf.length p.c12]) fun v hv=>?_
 simp only [List.mem_cons,List.not_mem_nil,or_false] at hv
 rcases hv with rfl | rfl | rfl | rfl | rfl | rfl | rfl | rfl | rfl | rfl | rfl | rfl | rfl
 all_goals rfl
theorem one15m (cd:Int) (p:MQ) (m:Msg) (nx:Int):(rsV cd p m nx).all (·.oneCell')=true:=by
 refine all_oneCell_toArray (cs:=[.int .i64 cd,.int .i64 m.k,.int .i64 m.v,.slice p.a2 m.r.length p.c2,.slice p.a3 m.s.length p.c3,.string ⟨⟨m.ho⟩⟩,.slice p.a5 m.pr.length p.c5,.slice p.a6 m.ti.length p.c6,.int .i64 m.ag,.int .i64 m.ea,.slice p.a9 m.bi.length p.c9,.bool m.rs,.slice p.a11 m.ce.length p.c11,.slice p.a12 m.pf.length p.c12,.int .i64 nx]) fun v hv=>?_
 simp only [List.mem_cons,List.not_mem_nil,or_false] at hv
 rcases hv with rfl | rfl | rfl | rfl | rfl | rfl | rfl | rfl | rfl | rfl | rfl | rfl | rfl | rfl | rfl
 all_goals rfl
theorem z15_u8:∀ v ∈ ([.int .i64 0,.int .i64 0,.int .i64 0,.slice none 0 0,.slice none 0 0,.string ⟨#[]⟩,.slice none 0 0,.slice none 0 0,.int .i64 0,.int .i64 0,.slice none 0 0,.bool false,.slice none 0 0,.slice none 0 0,.int .i64 0]:List Value),∀ x,v ≠ .int .u8 x:=by
 intro v hv x
 simp only [List.mem_cons,List.not_mem_nil,or_false] at hv
 rcases hv with rfl | rfl | rfl | rfl | rfl | rfl | rfl | rfl | rfl | rfl | rfl | rfl | rfl | rfl | rfl <;> simp
theorem wpList_buT {P:Program} (w:World) {ops:Array Oper} {rest:List Oper} {o:Oper} {a:Act} {Q:Exit→Act→World→Prop} (hgd:o.guard=none) (t:TypeId) (fs:Array (Nat × Operand)) (ho:o.op = .build t fs) (vs:Array (Nat × Value)) (hv:fs.map (fun x=>(x.1,a.eval x.2))=vs)
  (v':Value) (hr:(Instr.build t vs).run P w = .ok v' w) (h:wpList P ops Q rest (a.put o.dst v') w):wpList P ops Q (o :: rest) a w :=
 wpList_plain hgd fun _ hK=>by
  unfold Oper.wp execOp
  simp only [ho,hv]
  rw [Sem.run_bind,hr]
  exact hK _ _ h
theorem dmP_zero {ys:List Int} (h:dmP ys=0):0 < ys.length∧ys.getD 0 0 ∈ kinds∧4≤ys.length∧beN ys 1 3≤8192∧4+beN ys 1 3≤(ys.length:Int):=by
 unfold dmP at h
 split at h
 ·simp at h
 split at h
 ·simp at h
 rename_i hk
 split at h
 ·simp at h
 split at h
 ·simp at h
 split at h
 ·simp at h
 exact ⟨by omega,Decidable.not_not.1 hk,by omega,by omega,by omega⟩
set_option maxRecDepth 100000 in
set_option maxHeartbeats 4000000 in
theorem specDM_body (w : World) (g : Nat) (a : Option Addr) (c : Nat) (xs : List Int) (i : Nat) (hi : i ≤ xs.length) (hr : Rd w g a .u8 xs) (hb : Byt xs) (hz : a = none → c = 0) (hc : xs.length ≤ c) (hx : xs.length ≤ 1048576) (hp : dmP (xs.drop i) = 0) :
  Calls Tryz.prog 12 #[.slice a xs.length c,.int .i64 (i:Int)] w fun e w'=>(∃ p,e = .returned (.agg (rsV (dmC xs (i:Int)) p (dmR xs (i:Int)) (dmE xs (i:Int))))∧HasM w' p (dmR xs (i:Int))∧∀ b,b < w.heap.size→NoM b p (dmR xs (i:Int)))∧Below w.heap.size w w':=by
 have Z:RwC (w.alloc (.cells #[.int .i64 0,.int .i64 0,.int .i64 0,.slice none 0 0,.slice none 0 0,.string ⟨#[]⟩,.slice none 0 0,.slice none 0 0,.int .i64 0,.int .i64 0,.slice none 0 0,.bool false,.slice none 0 0,.slice none 0 0,.int .i64 0] 31)) w.heap.size [.int .i64 0,.int .i64 0,.int .i64 0,.slice none 0 0,.slice none 0 0,.string ⟨#[]⟩,.slice none 0 0,.slice none 0 0,.int .i64 0,.int .i64 0,.slice none 0 0,.bool false,.slice none 0 0,.slice none 0 0,.int .i64 0] 31:=RwC.new w _ _
 have N:Below w.heap.size w (w.alloc (.cells #[.int .i64 0,.int .i64 0,.int .i64 0,.slice none 0 0,.slice none 0 0,.string ⟨#[]⟩,.slice none 0 0,.slice none 0 0,.int .i64 0,.int .i64 0,.slice none 0 0,.bool false,.slice none 0 0,.slice none 0 0,.int .i64 0] 31)):=(Below.refl _ _).alloc (Nat.le_refl _) _
 obtain ⟨d15,hd15,hrow15⟩:=rowMR
 go_enter Tryz.func12,Tryz.ntmps12
 go_upto_region 1 with fail
 generalize w.alloc (.cells #[.int .i64 0,.int .i64 0,.int .i64 0,.slice none 0 0,.slice none 0 0,.string ⟨#[]⟩,.slice none 0 0,.slice none 0 0,.int .i64 0,.int .i64 0,.slice none 0 0,.bool false,.slice none 0 0,.slice none 0 0,.int .i64 0] 31)=W at *
 have t0:decide ((i:Int) < 0)=false:=decide_eq_false (by omega)
 have t1:decide ((xs.length:Int) < (i:Int))=false:=decide_eq_false (by omega)
 go_upto_region 3 with fail
 obtain ⟨ys,ey⟩:∃ ys,xs.drop i=ys:=⟨_,rfl⟩
 have ly:ys.length=xs.length - i:=by rw [← ey,List.length_drop]
 have SLC:=sl_low W a xs.length c i ys.length hi hc ly
 have RY:Rd W g (slA a i c) .u8 ys:=by rw [← ey];exact (hr.up N).slD hc i
 have zY:=fun h=>slA_none (i:=i) hz h
 have cY:ys.length≤c - i:=by omega
 have BY:Byt ys:=by rw [← ey];exact byt_drop hb i
 have LY:ys.length≤1048576:=by omega
 have EY:Hid (xs.drop ((i:Int)).toNat=ys):=ey
 have ZY:=hide zY
 clear ly ey hr hb hz hc zY t0 t1
 generalize slA a i c=aR at *
 generalize c - i=cR at *
 go_upto_region 4 with (refine wpList_slT _ rfl 22 (.tmp 17) (some (.tmp 18)) none rfl (.slice a xs.length c) (some (.int .i64 (i:Int))) none rfl rfl rfl _ SLC ?_)
 clear SLC
 have HI:=hide hi
 have e1:xs.drop i=ys:=EY.out
 rw [e1] at hp
 clear e1
 have HP:=hide hp
 obtain ⟨l1,hk0,l4',n8',lf'⟩:=dmP_zero hp
 have eX:Hid (dmX ys=(ys.drop 4).take (dmN ys)):=rfl
 clear hp
 obtain ⟨off,rfl,hc0⟩:=RY l1
 have x0:W.cell? ⟨g,off,none⟩=some (.int .u8 (ys.getD 0 0)):=hc0 0 l1
 have b0:=BY 0
 have u1:decide ((1:Int)≤(ys.length:Int))=true:=decide_eq_true (by omega)
 have HC:=hide hc0
 have HRY:=hide RY
 have HBY:=hide BY
 clear hc0 RY
 obtain ⟨k,ek⟩:∃ k,Hid (ys.getD 0 0=k):=⟨_,rfl⟩
 rw [ek.out] at x0 b0 hk0
 have l4:¬ ys.length < 4:=by omega
 have l0:¬ ys.length=0:=by omega
 go_wp2_with fail
 refine (l13Known_any W k).mono ?_
 rintro e W1 ⟨rfl,n1⟩
 have Z1:=Z.up n1
 have N1:=nxt N n1
 have HC1:Hid (∀ j,j < ys.length→W1.cell? ⟨g,off+j,none⟩=some (.int .u8 (ys.getD j 0))):=fun j hj=>(World.cell?_of_block (a:=⟨g,off+j,none⟩) (n1.block g (block_lt_of_cell (HC.out j hj)))).trans (HC.out j hj)
 have HR1:=hide (HRY.out.up n1)
 clear Z N n1 HC x0 HRY
 have Z:=Z1
 have N:=N1
 clear Z1 N1
 have u3:decide (k ∈ kinds)=true:=decide_eq_true hk0
 rw [u3]
 clear u3
 have x1:=HC1.out 1 (by omega)
 have x2:=HC1.out 2 (by omega)
 have x3:=HC1.out 3 (by omega)
 have b1:=BY 1
 have b2:=BY 2
 have b3:=BY 3
 have en:beN ys 1 3=(ys.getD 1 0*256+ys.getD 2 0)*256+ys.getD 3 0:=by
  show ((0*256+ys.getD 1 0)*256+ys.getD 2 0)*256+ys.getD 3 0=_
  omega
 obtain ⟨y1,q1⟩:∃ k,Hid (ys.getD 1 0=k):=⟨_,rfl⟩
 obtain ⟨y2,q2⟩:∃ k,Hid (ys.getD 2 0=k):=⟨_,rfl⟩
 obtain ⟨y3,q3⟩:∃ k,Hid (ys.getD 3 0=k):=⟨_,rfl⟩
 rw [q1.out] at x1 b1 en
 rw [q2.out] at x2 b2 en
 rw [q3.out] at x3 b3 en
 have i1:(1:Int) < (ys.length:Int):=by omega
 have i2:(2:Int) < (ys.length:Int):=by omega
 have i3:(3:Int) < (ys.length:Int):=by omega
 have u2:decide ((ys.length:Int) < 4)=false:=decide_eq_false (by omega)
 obtain ⟨n,hn⟩:=Int.eq_ofNat_of_zero_le (show 0≤y1*65536+y2*256+y3 by omega)
 have EN:Hid (beN ys 1 3=(n:Int)):=by show _=_;omega
 have nn:n < 16777216:=by omega
 have s1:IntKind.i64.wrap (y1*65536)=y1*65536:=by rw [IntKind.wrap_i64];omega
 have s2:IntKind.i64.wrap (y2*256)=y2*256:=by rw [IntKind.wrap_i64];omega
 have s3:IntKind.i64.wrap (y1*65536+y2*256)=y1*65536+y2*256:=by rw [IntKind.wrap_i64];omega
 have s4:IntKind.i64.wrap (y1*65536+y2*256+y3)=y1*65536+y2*256+y3:=by rw [IntKind.wrap_i64];omega
 have HN:=hide hn
 clear hn en
 go_upto_region 8 with fail
 go_quiet (fail)
 have Z1:RwC (W1.drewN nq) w.heap.size [.int .i64 0,.int .i64 0,.int .i64 0,.slice none 0 0,.slice none 0 0,.string ⟨#[]⟩,.slice none 0 0,.slice none 0 0,.int .i64 0,.int .i64 0,.slice none 0 0,.bool false,.slice none 0 0,.slice none 0 0,.int .i64 0] 31:=Z
 have N1:Below w.heap.size w (W1.drewN nq):=below_drewN N _
 have HR2:Hid (Rd (W1.drewN nq) g (some ⟨g,off,none⟩) .u8 ys):=HR1.out
 have HC2:Hid (∀ j,j < ys.length→(W1.drewN nq).cell? ⟨g,off+j,none⟩=some (.int .u8 (ys.getD j 0))):=HC1.out
 clear Z N HC1 HR1 x1 x2 x3 s1 s2 s3 s4 u2
 generalize W1.drewN nq=W2 at *
 have Z:=Z1
 have N:=N1
 clear Z1 N1
 rw [HN.out]
 clear HN b1 b2 b3 q1 q2 q3 i1 i2 i3
 have n8:n≤8192:=by have:=EN.out;omega
 have lf:4+n≤ys.length:=by have:=EN.out;omega
 have eNn:Hid (dmN ys=n):=by show (beN ys 1 3).toNat=n;rw [EN.out];rfl
 clear n8' lf' l4'
 have u4:decide ((8192:Int) < (n:Int))=false:=decide_eq_false (by omega)
 have s5:IntKind.i64.wrap (4+(n:Int))=4+(n:Int):=by rw [IntKind.wrap_i64];omega
 have u5:decide ((ys.length:Int) < 4+(n:Int))=false:=decide_eq_false (by omega)
 have e4n:(4+(n:Int))=((4+n:Nat):Int):=by omega
 obtain ⟨zs,ez⟩:∃ zs,Hid (dmX ys=zs):=⟨_,rfl⟩
 have lz:Hid (zs.length=n):=by
  show _=_
  rw [← ez.out]
  show ((ys.drop 4).take (dmN ys)).length=n
  rw [List.length_take,List.length_drop,eNn.out]
  omega
 have bz:Hid (Byt zs):=by show Byt _;rw [← ez.out];exact dmX_byt HBY.out
 have x0:W2.cell? ⟨g,off,none⟩=some (.int .u8 k):=by have:=HC2.out 0 l1;rw [ek.out] at this;exact this
 have SLZ:∀ V:World,(Instr.sliceAt 22 (.slice (some ⟨g,off,none⟩) ys.length cR) (some (.int .i64 ((4:Nat):Int))) (some (.int .i64 (4+(n:Int)))) none).run Tryz.prog V = .ok (.slice (slA (some ⟨g,off,none⟩) 4 cR) zs.length (cR - 4)) V:=fun V=>by rw [e4n];exact sl_both V _ _ _ 4 (4+n) zs.length (by omega) (by omega) (by have:=lz.out;omega)
 have RZ:Hid (∀ V,Below W2.heap.size W2 V→Rd V g (slA (some ⟨g,off,none⟩) 4 cR) .u8 zs):=fun V nV=>by
  rw [← ez.out]
  exact (HR2.out.up nV).sl cY 4 (dmN ys)
 obtain ⟨aZ,haZ⟩:∃ x,Hid (slA (some ⟨g,off,none⟩) 4 cR=x):=⟨_,rfl⟩
 rw [haZ.out] at SLZ RZ
 have SLT:∀ V:World,(Instr.sliceAt 22 (.slice (some ⟨g,off,none⟩) ys.length cR) none (some (.int .i64 (4+(n:Int)))) none).run Tryz.prog V = .ok (.slice (slA (some ⟨g,off,none⟩) 0 cR) (ys.take (4+n)).length cR) V:=fun V=>by
  rw [List.length_take,Nat.min_eq_left (by omega),e4n]
  exact sl_high V _ _ _ (4+n) (by omega)
 have RT:Hid (∀ V,Below W2.heap.size W2 V→Rd V g (slA (some ⟨g,off,none⟩) 0 cR) .u8 (ys.take (4+n))):=fun V nV=>by
  have:=(HR2.out.up nV).sl cY 0 (4+n)
  rwa [List.drop_zero] at this
 obtain ⟨aT,haT⟩:∃ x,Hid (slA (some ⟨g,off,none⟩) 0 cR=x):=⟨_,rfl⟩
 rw [haT.out] at SLT RT
 obtain ⟨ts,ets⟩:∃ ts,Hid (ys.take (4+n)=ts):=⟨_,rfl⟩
 rw [ets.out] at SLT RT
 obtain ⟨cZ,hcZ⟩:∃ x,Hid (cR - 4=x):=⟨_,rfl⟩
 rw [hcZ.out] at SLZ
 obtain ⟨m,em⟩:∃ m,Hid (dmM ys=m):=⟨_,rfl⟩
 have PC:Hid (∀ V,Below W2.heap.size W2 V→Calls Tryz.prog 30 #[.int .i64 k,.slice aZ zs.length cZ] V fun e V'=>(∃ p,e = .returned (.agg (mgV p m))∧HasM V' p m∧HasZ p m∧TyM V' p m∧∀ g,g < V.heap.size→NoM g p m)∧Below V.heap.size V V'):=fun V nV=>by
  have:=specParse_any V g aZ cZ zs k hk0 (RZ.out V nV) bz.out (by rw [lz.out];exact n8)
  rw [show rdM k zs=m by rw [← ek.out,← ez.out];exact em.out] at this
  exact this
 have IS:Hid (IsM m):=by show IsM m;rw [← em.out];exact isM_rd (dmX_byt HBY.out) _
 have BE:Hid (Byt (encF m)):=by
  show Byt (encF m)
  rw [← em.out]
  have hk1:(dmM ys).k=k:=by rw [← ek.out];exact rd_k (by rw [ek.out];exact hk0)
  have kk:0≤k∧k < 256:=by have:=HBY.out 0;rw [ek.out] at this;exact this
  exact byt_enc (by rw [hk1];exact kk.1) (by rw [hk1];exact kk.2) (byt_rd (dmX_byt HBY.out) _)
 have BT:Hid (Byt ts):=by show Byt ts;rw [← ets.out];exact byt_takeQ HBY.out _
 have GG:Hid (dmG ys=decide (mfF m=0∧encF m=ts)):=by
  show _=_
  unfold dmG
  rw [em.out]
  by_cases f0:mfF m=0
  ·have q := enc_eq HBY.out HP.out (by rw [em.out]; exact f0)
   rw [em.out,eNn.out,ets.out] at q
   simp [f0,q]
  ·simp [f0]
 clear n8 lf e4n HC2 HR2 lz bz haZ haT hcZ
 have wk:IntKind.i64.wrap k=k:=by rw [IntKind.wrap_i64];omega
 go_upto_region 13 with fail
 refine region_newT 10 9 8 7 69 _ (fun i=>[Fact.eq (.slice (some ⟨g,off,none⟩) ys.length cR),Fact.eq (.pointer (some ⟨g,off,none⟩)),Fact.eq (.int .u8 k),Fact.eq (.int .i64 k),Fact.eq (.slice (some ⟨g,off,none⟩) ys.length cR),Fact.eq (.int .i64 (n:Int)),Fact.eq (.int .i64 (4+(n:Int))),Fact.eq (.slice aZ zs.length cZ),PMF W2.heap.size m,NBt W2.heap.size 26 zM].getD i Fact.no) 26 zM (PMF W2.heap.size m) (by kernel_rfl) (by kernel_rfl) rfl rfl rfl iM (by kernel_rfl) rfl (by kernel_rfl) rfl ?_ ?_ ?_
 ·rintro v V ⟨p, rfl, -⟩
  exact ⟨(mgV p m).toList,by simp,rfl,by simpa using one13m p m⟩
 ·intro i hi
  obtain rfl | rfl | rfl | rfl | rfl | rfl | rfl | rfl | rfl | rfl:i=0∨i=1∨i=2∨i=3∨i=4∨i=5∨i=6∨i=7∨i=8∨i=9:=by omega
  ·refine step_pure rfl fun A ww hb hw hf => ?_
   have e0:A.tmps[5]?.getD undef = .slice (some ⟨g,off,none⟩) ys.length cR:=gdv (hb.2.2 5 (by kernel_rfl))
   exact ⟨_,by simp [go_sem,e0],rfl⟩
  ·refine step_pure rfl fun A ww hb hw hf => ?_
   have e0:A.tmps[61]?.getD undef = .slice (some ⟨g,off,none⟩) ys.length cR:=gdv (hf 0 61 (by kernel_rfl))
   exact ⟨_,by simp [go_sem,e0,l1,Tryz.underlying22],rfl⟩
  ·refine step_pure rfl fun A ww hb hw hf => ?_
   have e0:A.tmps[62]?.getD undef = .pointer (some ⟨g,off,none⟩):=gdv (hf 1 62 (by kernel_rfl))
   have hc:ww.cell? ⟨g,off,none⟩=some (.int .u8 k):=(World.cell?_of_block (a:=⟨g,off,none⟩) (hw.block g (block_lt_of_cell x0))).trans x0
   exact ⟨.int .u8 k,by simp [go_sem,e0,hc],rfl⟩
  ·refine step_pure rfl fun A ww hb hw hf => ?_
   have e0:A.tmps[63]?.getD undef = .int .u8 k:=gdv (hf 2 63 (by kernel_rfl))
   exact ⟨.int .i64 k,by simp [go_sem,e0,wk],rfl⟩
  ·refine step_pure rfl fun A ww hb hw hf => ?_
   have e0:A.tmps[5]?.getD undef = .slice (some ⟨g,off,none⟩) ys.length cR:=gdv (hb.2.2 5 (by kernel_rfl))
   exact ⟨_,by simp [go_sem,e0],rfl⟩
  ·refine step_pure rfl fun A ww hb hw hf => ?_
   have e0:A.tmps[6]?.getD undef = .int .i64 (n:Int):=gdv (hb.2.2 6 (by kernel_rfl))
   exact ⟨_,by simp [go_sem,e0],rfl⟩
  ·refine step_pure rfl fun A ww hb hw hf => ?_
   have e0:A.tmps[66]?.getD undef = .int .i64 (n:Int):=gdv (hf 5 66 (by kernel_rfl))
   exact ⟨.int .i64 (4+(n:Int)),by simp [go_sem,e0,s5],rfl⟩
  ·refine step_slc rfl 22 (.tmp 65) (some (.const (.int .i64 4))) (some (.tmp 67)) rfl (.slice (some ⟨g, off, none⟩) ys.length cR) (some (.int .i64 ((4 : Nat) : Int))) (some (.int .i64 (4 + (n : Int)))) (.slice aZ zs.length cZ) fun A ww hb hw hf => ?_
   have e0:A.eval (.tmp 65) = .slice (some ⟨g,off,none⟩) ys.length cR:=hf 4 65 (by kernel_rfl)
   have e1:A.eval (.tmp 67) = .int .i64 (4+(n:Int)):=hf 6 67 (by kernel_rfl)
   exact ⟨e0,rfl,by rw [Option.map_some,e1],SLZ ww,rfl⟩
  ·refine step_callv rfl 30 _ _ rfl (by kernel_rfl) fun A ww hb hw hf => ?_
   have e0:A.tmps.getD 64 undef = .int .i64 k:=hf 3 64 (by kernel_rfl)
   have e1:A.tmps.getD 68 undef = .slice aZ zs.length cZ:=hf 7 68 (by kernel_rfl)
   show Calls Tryz.prog 30 #[A.tmps.getD 64 undef,A.tmps.getD 68 undef] ww _
   rw [e0,e1]
   refine (PC.out ww hw).mono ?_
   rintro r w' ⟨⟨p,rfl,h1,h2,h3,h4⟩,n'⟩
   exact ⟨_,rfl,n',p,rfl,h1,h2,h3,fun g hg=>h4 g (Nat.lt_of_lt_of_le hg hw.size)⟩
  ·exact step_newMs rfl rfl rfl
 ·intro vs V V' q cs vq hq hw rq hG OQ rc hW
  obtain ⟨p,ep,h1,h2,h3,h4⟩:=hG
  have HNO:Hid (∀ b,b < w.heap.size→NoM b p m):=fun b hb=>h4 b (Nat.lt_of_lt_of_le hb N.size)
  clear h4
  have ec:cs=(mgV p m).toList:=by
   have:=Value.agg.inj ep
   rw [← this]
  subst ec
  obtain ⟨HM,HT⟩:=h1.offM h3 rq OQ
  have Z3:RwC V' w.heap.size [.int .i64 0,.int .i64 0,.int .i64 0,.slice none 0 0,.slice none 0 0,.string ⟨#[]⟩,.slice none 0 0,.slice none 0 0,.int .i64 0,.int .i64 0,.slice none 0 0,.bool false,.slice none 0 0,.slice none 0 0,.int .i64 0] 31:=(Z.up hw).onl OQ (by have:=Z.lt;omega)
  have N3:=nxt N hW
  have RTV:=hide (RT.out V' hW)
  have zq:q≠w.heap.size:=by have:=Z.lt;omega
  simp only [puts,vq,Act.put,List.setIfInBounds_toArray,List.set_cons_succ,List.set_cons_zero]
  generalize vs 61=y61 at *
  generalize vs 62=y62 at *
  generalize vs 63=y63 at *
  generalize vs 64=y64 at *
  generalize vs 65=y65 at *
  generalize vs 66=y66 at *
  generalize vs 67=y67 at *
  generalize vs 68=y68 at *
  generalize vs 69=y69 at *
  clear vq hw hW OQ RZ SLZ PC Z N rq h1 h3 x0 ep
  obtain ⟨d13,hd13,hrow13⟩:=rowM
  have QC:Hid (∀ U,Below V'.heap.size V' U→RwC U q (mgV p m).toList 26):=fun U nU=>rc.up nU
  have HQ:=hide rc
  have HF:Hid (∀ U,Below V'.heap.size V' U→Calls Tryz.prog 6 #[.agg (mgV p m)] U fun e U'=>e = .returned (.int .i64 (mfF m))∧Below U.heap.size U U'):=fun U nU=>specMF_any U p m (HM.up nU) IS.out
  have HEn:Hid (∀ U,Below V'.heap.size V' U→Calls Tryz.prog 32 #[.agg (mgV p m)] U (BodP U (encF m))):=fun U nU=>specEnc_any U p m (HM.up nU) IS.out h2
  have HMM:=hide HM
  have HTT:=hide HT
  clear HM HT h2 rc
  go_upto_region 14 with fail
  have iC:dmC xs (i:Int)=if dmG ys=true then 0 else 3:=by
   unfold dmC
   rw [if_neg (by have:=HI.out;omega),EY.out,if_neg (by rw [HP.out];exact fun h=>h rfl)]
  have HIC:=hide iC
  clear iC
  obtain ⟨f,hf0⟩:∃ f,Hid (mfF m=f):=⟨_,rfl⟩
  obtain ⟨en,he0⟩:∃ f,Hid (encF m=f):=⟨_,rfl⟩
  rw [hf0.out] at HF GG
  rw [he0.out] at HEn BE GG
  by_cases f0:f=0
  ·skip
   refine region_guardW (fun i=>[true,true,true,true,true,true,true,true,true,true,true,true,true].getD i true) (fun i=>[Fact.eq (.agg (mgV p m)),Fact.eq (.int .i64 f),Fact.eq (.bool false),Fact.eq (.bool false),Fact.eq (.agg (mgV p m)),RBe V'.heap.size en,Fact.eq (.slice (some ⟨g,off,none⟩) ys.length cR),Fact.eq (.int .i64 (n:Int)),Fact.eq (.int .i64 (4+(n:Int))),Fact.eq (.slice aT ts.length cR),Fact.eq (.bool (decide (en=ts))),Fact.eq (.bool (!decide (en=ts))),Fact.eq (.bool (!decide (en=ts)))].getD i Fact.no) (by kernel_rfl) (by kernel_rfl) ?_ ?_ ?_
   ·intro i hi hwn
    have hiN:i < 13:=hi
    obtain rfl | rfl | rfl | rfl | rfl | rfl | rfl | rfl | rfl | rfl | rfl | rfl | rfl:i=0∨i=1∨i=2∨i=3∨i=4∨i=5∨i=6∨i=7∨i=8∨i=9∨i=10∨i=11∨i=12:=by omega
    ·refine step_load rfl 26 (.tmp 7) rfl d13 13 hd13 hrow13 iM fun A ww hb hw hf => ?_
     have e7:A.tmps.getD 7 undef = .pointer (some ⟨q,0,none⟩):=hb.2.2 7 (by kernel_rfl)
     exact ⟨q,0,(mgV p m).toList,e7,(QC.out ww hw).rangeG,rfl,rfl⟩
    ·refine step_callv rfl 6 _ _ rfl (by kernel_rfl) fun A ww hb hw hf => ?_
     have e0:A.tmps.getD 70 undef = .agg (mgV p m):=hf 0 70 (by kernel_rfl)
     show Calls Tryz.prog 6 #[A.tmps.getD 70 undef] ww _
     rw [e0]
     exact (HF.out ww hw).mono (by rintro e w' ⟨rfl,n'⟩;exact ⟨_,rfl,n',rfl⟩)
    ·refine step_pure rfl fun A ww hb hw hf => ?_
     have e0:A.tmps[71]?.getD undef = .int .i64 f:=gdv (hf 1 71 (by kernel_rfl))
     exact ⟨.bool false,by simp [go_sem,e0,f0],rfl⟩
    ·refine step_pure rfl fun A ww hb hw hf => ?_
     have e0:A.tmps[72]?.getD undef = .bool false:=gdv (hf 2 72 (by kernel_rfl))
     exact ⟨.bool false,by simp [go_sem,e0],rfl⟩
    ·refine step_load rfl 26 (.tmp 7) rfl d13 13 hd13 hrow13 iM fun A ww hb hw hf => ?_
     have e7:A.tmps.getD 7 undef = .pointer (some ⟨q,0,none⟩):=hb.2.2 7 (by kernel_rfl)
     exact ⟨q,0,(mgV p m).toList,e7,(QC.out ww hw).rangeG,rfl,rfl⟩
    ·refine step_callv rfl 32 _ _ rfl (by kernel_rfl) fun A ww hb hw hf => ?_
     have e0:A.tmps.getD 74 undef = .agg (mgV p m):=hf 4 74 (by kernel_rfl)
     show Calls Tryz.prog 32 #[A.tmps.getD 74 undef] ww _
     rw [e0]
     exact (HEn.out ww hw).mono (by rintro e w' ⟨⟨x,rfl,R⟩,n'⟩;exact ⟨_,rfl,n',R.base hw.size⟩)
    ·refine step_pure rfl fun A ww hb hw hf => ?_
     have e0:A.tmps[5]?.getD undef = .slice (some ⟨g,off,none⟩) ys.length cR:=gdv (hb.2.2 5 (by kernel_rfl))
     exact ⟨_,by simp [go_sem,e0],rfl⟩
    ·refine step_pure rfl fun A ww hb hw hf => ?_
     have e0:A.tmps[6]?.getD undef = .int .i64 (n:Int):=gdv (hb.2.2 6 (by kernel_rfl))
     exact ⟨_,by simp [go_sem,e0],rfl⟩
    ·refine step_pure rfl fun A ww hb hw hf => ?_
     have e0:A.tmps[77]?.getD undef = .int .i64 (n:Int):=gdv (hf 7 77 (by kernel_rfl))
     exact ⟨.int .i64 (4+(n:Int)),by simp [go_sem,e0,s5],rfl⟩
    ·refine step_slc rfl 22 (.tmp 76) none (some (.tmp 78)) rfl (.slice (some ⟨g, off, none⟩) ys.length cR) none (some (.int .i64 (4 + (n : Int)))) (.slice aT ts.length cR) fun A ww hb hw hf => ?_
     have e0:A.eval (.tmp 76) = .slice (some ⟨g,off,none⟩) ys.length cR:=hf 6 76 (by kernel_rfl)
     have e1:A.eval (.tmp 78) = .int .i64 (4+(n:Int)):=hf 8 78 (by kernel_rfl)
     exact ⟨e0,rfl,by rw [Option.map_some,e1],SLT ww,rfl⟩
    ·refine step_callv rfl 31 _ _ rfl (by kernel_rfl) fun A ww hb hw hf => ?_
     have r0:RowB ww V'.heap.size (A.tmps.getD 75 undef) en:=hf 5 75 (by kernel_rfl)
     have e1:A.tmps.getD 79 undef = .slice aT ts.length cR:=hf 9 79 (by kernel_rfl)
     obtain ⟨a6,c6,g6,e6,D6,-,-,-⟩:=r0.rd
     show Calls Tryz.prog 31 #[A.tmps.getD 75 undef,A.tmps.getD 79 undef] ww _
     rw [e6,e1]
     exact (l1Same_any ww g6 g a6 aT c6 cR en ts D6 (RTV.out.up hw) BE.out BT.out).mono (by rintro e w' ⟨rfl,h'⟩;have h':=h'.symm;subst h';exact ⟨_,rfl,Below.refl _ _,rfl⟩)
    ·refine step_pure rfl fun A ww hb hw hf => ?_
     have e0:A.tmps[80]?.getD undef = .bool (decide (en=ts)):=gdv (hf 10 80 (by kernel_rfl))
     exact ⟨.bool (!decide (en=ts)),by simp [go_sem,e0],rfl⟩
    ·refine step_pure rfl fun A ww hb hw hf => ?_
     have e0:A.tmps[73]?.getD undef = .bool false:=gdv (hf 3 73 (by kernel_rfl))
     have e1:A.tmps[81]?.getD undef = .bool (!decide (en=ts)):=gdv (hf 11 81 (by kernel_rfl))
     exact ⟨.bool (!decide (en=ts)),by simp [go_sem,e0,e1],rfl⟩
   ·intro i o ho A WW hf
    have hiN:i < 13:=(Array.getElem?_eq_some_iff.1 ho).1
    obtain rfl | rfl | rfl | rfl | rfl | rfl | rfl | rfl | rfl | rfl | rfl | rfl | rfl:i=0∨i=1∨i=2∨i=3∨i=4∨i=5∨i=6∨i=7∨i=8∨i=9∨i=10∨i=11∨i=12:=by omega
    ·cases ho;exact .inl ⟨rfl,wanted_none rfl⟩
    ·cases ho;exact .inl ⟨rfl,wanted_none rfl⟩
    ·cases ho;exact .inl ⟨rfl,wanted_none rfl⟩
    ·cases ho;exact .inl ⟨rfl,wanted_none rfl⟩
    ·cases ho;exact .inl ⟨rfl,wanted_some rfl (by kernel_rfl) (hf 3 73 (by kernel_rfl))⟩
    ·cases ho;exact .inl ⟨rfl,wanted_some rfl (by kernel_rfl) (hf 3 73 (by kernel_rfl))⟩
    ·cases ho;exact .inl ⟨rfl,wanted_some rfl (by kernel_rfl) (hf 3 73 (by kernel_rfl))⟩
    ·cases ho;exact .inl ⟨rfl,wanted_some rfl (by kernel_rfl) (hf 3 73 (by kernel_rfl))⟩
    ·cases ho;exact .inl ⟨rfl,wanted_some rfl (by kernel_rfl) (hf 3 73 (by kernel_rfl))⟩
    ·cases ho;exact .inl ⟨rfl,wanted_some rfl (by kernel_rfl) (hf 3 73 (by kernel_rfl))⟩
    ·cases ho;exact .inl ⟨rfl,wanted_some rfl (by kernel_rfl) (hf 3 73 (by kernel_rfl))⟩
    ·cases ho;exact .inl ⟨rfl,wanted_some rfl (by kernel_rfl) (hf 3 73 (by kernel_rfl))⟩
    ·cases ho;exact .inl ⟨rfl,wanted_none rfl⟩
   ·intro A V4 hb' hw hF
    have e2:=hF 12 82 (by kernel_rfl)
    obtain ⟨vs,hvs⟩:∃ vs:Nat→Value,∀ d,A.tmps.getD d undef=vs d:=⟨_,fun _=>rfl⟩
    rw [hvs] at e2
    rw [puts_guard (md := .any) (by kernel_rfl) rfl hb' vs hvs]
    clear hb' hF hvs
    have e3:vs 82 = .bool (!decide (en=ts)):=e2
    clear e2
    simp only [puts,e3,Act.put,List.setIfInBounds_toArray,List.set_cons_succ,List.set_cons_zero]
    clear e3
    generalize vs 70=z70 at *
    generalize vs 71=z71 at *
    generalize vs 72=z72 at *
    generalize vs 73=z73 at *
    generalize vs 74=z74 at *
    generalize vs 75=z75 at *
    generalize vs 76=z76 at *
    generalize vs 77=z77 at *
    generalize vs 78=z78 at *
    generalize vs 79=z79 at *
    generalize vs 80=z80 at *
    generalize vs 81=z81 at *
    have Z4:=Z3.up hw
    have N4:=nxt N3 hw
    have Q4:=QC.out V4 hw
    have M4:=hide (HMM.out.up hw)
    have T4:=hide (HTT.out.up hw)
    clear Z3 N3 QC HQ HMM HTT HF HEn hw RTV SLT RT
    have Z:=Z4
    have N:=N4
    clear Z4 N4
    by_cases hE:en=ts
    ·have u6 : (!decide (en = ts)) = false := by simp [hE]
     rw [u6]
     have hC:dmC xs (i:Int)=0:=by rw [HIC.out,GG.out];simp [f0,hE]
     have hR:dmR xs (i:Int)=m:=by unfold dmR;rw [if_pos hC,EY.out];exact em.out
     have hX:dmE xs (i:Int)=(i:Int)+4+(n:Int):=by unfold dmE;rw [if_pos hC,EY.out,eNn.out]
     have i0:=HI.out
     have w1:IntKind.i64.wrap ((i:Int)+4)=(i:Int)+4:=by rw [IntKind.wrap_i64];omega
     have w2:IntKind.i64.wrap ((i:Int)+4+(n:Int))=(i:Int)+4+(n:Int):=by rw [IntKind.wrap_i64];omega
     have RG:V4.rangeAt q 0 [.int .i64 m.k,.int .i64 m.v,.slice p.a2 m.r.length p.c2,.slice p.a3 m.s.length p.c3,.string ⟨⟨m.ho⟩⟩,.slice p.a5 m.pr.length p.c5,.slice p.a6 m.ti.length p.c6,.int .i64 m.ag,.int .i64 m.ea,.slice p.a9 m.bi.length p.c9,.bool m.rs,.slice p.a11 m.ce.length p.c11,.slice p.a12 m.pf.length p.c12]:=Q4.rangeG
     have THR:=Z.thereG
     have OQ:=only_setG V4 w.heap.size [.int .i64 0,.int .i64 m.k,.int .i64 m.v,.slice p.a2 m.r.length p.c2,.slice p.a3 m.s.length p.c3,.string ⟨⟨m.ho⟩⟩,.slice p.a5 m.pr.length p.c5,.slice p.a6 m.ti.length p.c6,.int .i64 m.ag,.int .i64 m.ea,.slice p.a9 m.bi.length p.c9,.bool m.rs,.slice p.a11 m.ce.length p.c11,.slice p.a12 m.pf.length p.c12,.int .i64 ((i:Int)+4+(n:Int))] 0
     have RR:=World.rangeAt_setCells_same V4 w.heap.size 0 [.int .i64 0,.int .i64 m.k,.int .i64 m.v,.slice p.a2 m.r.length p.c2,.slice p.a3 m.s.length p.c3,.string ⟨⟨m.ho⟩⟩,.slice p.a5 m.pr.length p.c5,.slice p.a6 m.ti.length p.c6,.int .i64 m.ag,.int .i64 m.ea,.slice p.a9 m.bi.length p.c9,.bool m.rs,.slice p.a11 m.ce.length p.c11,.slice p.a12 m.pf.length p.c12,.int .i64 ((i:Int)+4+(n:Int))] THR
     have RES:Hid ((∃ p',Ending.returned (.agg #[.int .i64 0,.int .i64 m.k,.int .i64 m.v,.slice p.a2 m.r.length p.c2,.slice p.a3 m.s.length p.c3,.string ⟨⟨m.ho⟩⟩,.slice p.a5 m.pr.length p.c5,.slice p.a6 m.ti.length p.c6,.int .i64 m.ag,.int .i64 m.ea,.slice p.a9 m.bi.length p.c9,.bool m.rs,.slice p.a11 m.ce.length p.c11,.slice p.a12 m.pf.length p.c12,.int .i64 ((i:Int)+4+(n:Int))]) = .returned (.agg (rsV (dmC xs (i:Int)) p' (dmR xs (i:Int)) (dmE xs (i:Int))))∧HasM (V4.setCells w.heap.size 0 [.int .i64 0,.int .i64 m.k,.int .i64 m.v,.slice p.a2 m.r.length p.c2,.slice p.a3 m.s.length p.c3,.string ⟨⟨m.ho⟩⟩,.slice p.a5 m.pr.length p.c5,.slice p.a6 m.ti.length p.c6,.int .i64 m.ag,.int .i64 m.ea,.slice p.a9 m.bi.length p.c9,.bool m.rs,.slice p.a11 m.ce.length p.c11,.slice p.a12 m.pf.length p.c12,.int .i64 ((i:Int)+4+(n:Int))]) p' (dmR xs (i:Int))∧∀ b,b < w.heap.size→NoM b p' (dmR xs (i:Int)))∧Below w.heap.size w (V4.setCells w.heap.size 0 [.int .i64 0,.int .i64 m.k,.int .i64 m.v,.slice p.a2 m.r.length p.c2,.slice p.a3 m.s.length p.c3,.string ⟨⟨m.ho⟩⟩,.slice p.a5 m.pr.length p.c5,.slice p.a6 m.ti.length p.c6,.int .i64 m.ag,.int .i64 m.ea,.slice p.a9 m.bi.length p.c9,.bool m.rs,.slice p.a11 m.ce.length p.c11,.slice p.a12 m.pf.length p.c12,.int .i64 ((i:Int)+4+(n:Int))])):=by
      rw [hC,hR,hX]
      exact ⟨⟨p,rfl,(M4.out.offT T4.out z15_u8 (by decide) Z OQ).1,HNO.out⟩,N.trans (OQ.below (Nat.le_refl _))⟩
     have bld:∀ U:World,(Instr.build 31 #[(1,.agg #[.int .i64 m.k,.int .i64 m.v,.slice p.a2 m.r.length p.c2,.slice p.a3 m.s.length p.c3,.string ⟨⟨m.ho⟩⟩,.slice p.a5 m.pr.length p.c5,.slice p.a6 m.ti.length p.c6,.int .i64 m.ag,.int .i64 m.ea,.slice p.a9 m.bi.length p.c9,.bool m.rs,.slice p.a11 m.ce.length p.c11,.slice p.a12 m.pf.length p.c12]),(2,.int .i64 ((i:Int)+4+(n:Int)))]).run Tryz.prog U = .ok (.agg #[.int .i64 0,.int .i64 m.k,.int .i64 m.v,.slice p.a2 m.r.length p.c2,.slice p.a3 m.s.length p.c3,.string ⟨⟨m.ho⟩⟩,.slice p.a5 m.pr.length p.c5,.slice p.a6 m.ti.length p.c6,.int .i64 m.ag,.int .i64 m.ea,.slice p.a9 m.bi.length p.c9,.bool m.rs,.slice p.a11 m.ce.length p.c11,.slice p.a12 m.pf.length p.c12,.int .i64 ((i:Int)+4+(n:Int))]) U:=fun U=>by kernel_rfl
     have ON:(#[.int .i64 0,.int .i64 m.k,.int .i64 m.v,.slice p.a2 m.r.length p.c2,.slice p.a3 m.s.length p.c3,.string ⟨⟨m.ho⟩⟩,.slice p.a5 m.pr.length p.c5,.slice p.a6 m.ti.length p.c6,.int .i64 m.ag,.int .i64 m.ea,.slice p.a9 m.bi.length p.c9,.bool m.rs,.slice p.a11 m.ce.length p.c11,.slice p.a12 m.pf.length p.c12,.int .i64 ((i:Int)+4+(n:Int))]:Array Value).all (·.oneCell')=true:=one15m 0 p m ((i:Int)+4+(n:Int))
     clear OQ Z N Q4 hC hR hX i0 M4 T4
     go_wp2_with (first
      | (refine wpList_load_mid rfl 26 (.tmp 7) rfl q 0 rfl [.int .i64 m.k,.int .i64 m.v,.slice p.a2 m.r.length p.c2,.slice p.a3 m.s.length p.c3,.string ⟨⟨m.ho⟩⟩,.slice p.a5 m.pr.length p.c5,.slice p.a6 m.ti.length p.c6,.int .i64 m.ag,.int .i64 m.ea,.slice p.a9 m.bi.length p.c9,.bool m.rs,.slice p.a11 m.ce.length p.c11,.slice p.a12 m.pf.length p.c12] d13 RG hd13 hrow13 iM ?_)
      | (refine wpList_store_mid rfl 31 (.tmp 4) (.tmp 89) rfl w.heap.size 0 #[.int .i64 0,.int .i64 m.k,.int .i64 m.v,.slice p.a2 m.r.length p.c2,.slice p.a3 m.s.length p.c3,.string ⟨⟨m.ho⟩⟩,.slice p.a5 m.pr.length p.c5,.slice p.a6 m.ti.length p.c6,.int .i64 m.ag,.int .i64 m.ea,.slice p.a9 m.bi.length p.c9,.bool m.rs,.slice p.a11 m.ce.length p.c11,.slice p.a12 m.pf.length p.c12,.int .i64 ((i:Int)+4+(n:Int))] rfl rfl THR iMR ON ?_)
      | (refine wpList_buT _ rfl 31 #[(1,.tmp 84),(2,.tmp 88)] rfl #[(1,.agg #[.int .i64 m.k,.int .i64 m.v,.slice p.a2 m.r.length p.c2,.slice p.a3 m.s.length p.c3,.string ⟨⟨m.ho⟩⟩,.slice p.a5 m.pr.length p.c5,.slice p.a6 m.ti.length p.c6,.int .i64 m.ag,.int .i64 m.ea,.slice p.a9 m.bi.length p.c9,.bool m.rs,.slice p.a11 m.ce.length p.c11,.slice p.a12 m.pf.length p.c12]),(2,.int .i64 ((i:Int)+4+(n:Int)))] rfl _ (bld _) ?_))
     exact bodyPost_ret (v := .agg #[.int .i64 0,.int .i64 m.k,.int .i64 m.v,.slice p.a2 m.r.length p.c2,.slice p.a3 m.s.length p.c3,.string ⟨⟨m.ho⟩⟩,.slice p.a5 m.pr.length p.c5,.slice p.a6 m.ti.length p.c6,.int .i64 m.ag,.int .i64 m.ea,.slice p.a9 m.bi.length p.c9,.bool m.rs,.slice p.a11 m.ce.length p.c11,.slice p.a12 m.pf.length p.c12,.int .i64 ((i:Int)+4+(n:Int))]) (results_cellG Tryz.results12 _ _ w.heap.size _ d15 rfl RR hd15 hrow15 iMR) rfl RES.out
    ·have u6 : (!decide (en = ts)) = true := by simp [hE]
     rw [u6]
     go_upto_region 15 with fail
     have THR:=Z.thereG
     have RR:=World.rangeAt_setCells_same V4 w.heap.size 0 [.int .i64 3,.int .i64 0,.int .i64 0,.slice none 0 0,.slice none 0 0,.string ⟨#[]⟩,.slice none 0 0,.slice none 0 0,.int .i64 0,.int .i64 0,.slice none 0 0,.bool false,.slice none 0 0,.slice none 0 0,.int .i64 0] THR
     have OQ:=only_setG V4 w.heap.size [.int .i64 3,.int .i64 0,.int .i64 0,.slice none 0 0,.slice none 0 0,.string ⟨#[]⟩,.slice none 0 0,.slice none 0 0,.int .i64 0,.int .i64 0,.slice none 0 0,.bool false,.slice none 0 0,.slice none 0 0,.int .i64 0] 0
     have RES:Hid ((∃ p,Ending.returned (.agg #[.int .i64 3,.int .i64 0,.int .i64 0,.slice none 0 0,.slice none 0 0,.string ⟨#[]⟩,.slice none 0 0,.slice none 0 0,.int .i64 0,.int .i64 0,.slice none 0 0,.bool false,.slice none 0 0,.slice none 0 0,.int .i64 0]) = .returned (.agg (rsV (dmC xs (i:Int)) p (dmR xs (i:Int)) (dmE xs (i:Int))))∧HasM (V4.setCells w.heap.size 0 [.int .i64 3,.int .i64 0,.int .i64 0,.slice none 0 0,.slice none 0 0,.string ⟨#[]⟩,.slice none 0 0,.slice none 0 0,.int .i64 0,.int .i64 0,.slice none 0 0,.bool false,.slice none 0 0,.slice none 0 0,.int .i64 0]) p (dmR xs (i:Int))∧∀ b,b < w.heap.size→NoM b p (dmR xs (i:Int)))∧Below w.heap.size w (V4.setCells w.heap.size 0 [.int .i64 3,.int .i64 0,.int .i64 0,.slice none 0 0,.slice none 0 0,.string ⟨#[]⟩,.slice none 0 0,.slice none 0 0,.int .i64 0,.int .i64 0,.slice none 0 0,.bool false,.slice none 0 0,.slice none 0 0,.int .i64 0])):=by
      have hC:dmC xs (i:Int)=3:=by rw [HIC.out,GG.out];simp [hE]
      have hR:dmR xs (i:Int)=msg0:=by unfold dmR;rw [hC];rfl
      have hE:dmE xs (i:Int)=0:=by unfold dmE;rw [hC];rfl
      rw [hC,hR,hE]
      exact ⟨⟨mq0,rfl,hasM0 _,fun _ _=>noM0 _⟩,N.trans (OQ.below (Nat.le_refl _))⟩
     clear OQ Z N
     go_wp2_with (refine wpList_store_mid rfl 31 (.tmp 4) (.tmp 83) rfl w.heap.size 0 #[.int .i64 3,.int .i64 0,.int .i64 0,.slice none 0 0,.slice none 0 0,.string ⟨#[]⟩,.slice none 0 0,.slice none 0 0,.int .i64 0,.int .i64 0,.slice none 0 0,.bool false,.slice none 0 0,.slice none 0 0,.int .i64 0] rfl rfl THR iMR (one15 _ rfl) ?_)
     exact bodyPost_ret (v := .agg #[.int .i64 3,.int .i64 0,.int .i64 0,.slice none 0 0,.slice none 0 0,.string ⟨#[]⟩,.slice none 0 0,.slice none 0 0,.int .i64 0,.int .i64 0,.slice none 0 0,.bool false,.slice none 0 0,.slice none 0 0,.int .i64 0]) (results_cellG Tryz.results12 _ _ w.heap.size _ d15 rfl RR hd15 hrow15 iMR) rfl RES.out
  ·skip
   refine region_guardW (fun i=>[true,true,true,true,false,false,false,false,false,false,false,false,true].getD i true) (fun i=>[Fact.eq (.agg (mgV p m)),Fact.eq (.int .i64 f),Fact.eq (.bool true),Fact.eq (.bool true),Fact.eq undef,Fact.eq undef,Fact.eq undef,Fact.eq undef,Fact.eq undef,Fact.eq undef,Fact.eq undef,Fact.eq undef,Fact.eq (.bool true)].getD i Fact.no) (by kernel_rfl) (by kernel_rfl) ?_ ?_ ?_
   ·intro i hi hwn
    have hiN:i < 13:=hi
    obtain rfl | rfl | rfl | rfl | rfl | rfl | rfl | rfl | rfl | rfl | rfl | rfl | rfl:i=0∨i=1∨i=2∨i=3∨i=4∨i=5∨i=6∨i=7∨i=8∨i=9∨i=10∨i=11∨i=12:=by omega
    ·refine step_load rfl 26 (.tmp 7) rfl d13 13 hd13 hrow13 iM fun A ww hb hw hf => ?_
     have e7:A.tmps.getD 7 undef = .pointer (some ⟨q,0,none⟩):=hb.2.2 7 (by kernel_rfl)
     exact ⟨q,0,(mgV p m).toList,e7,(QC.out ww hw).rangeG,rfl,rfl⟩
    ·refine step_callv rfl 6 _ _ rfl (by kernel_rfl) fun A ww hb hw hf => ?_
     have e0:A.tmps.getD 70 undef = .agg (mgV p m):=hf 0 70 (by kernel_rfl)
     show Calls Tryz.prog 6 #[A.tmps.getD 70 undef] ww _
     rw [e0]
     exact (HF.out ww hw).mono (by rintro e w' ⟨rfl,n'⟩;exact ⟨_,rfl,n',rfl⟩)
    ·refine step_pure rfl fun A ww hb hw hf => ?_
     have e0:A.tmps[71]?.getD undef = .int .i64 f:=gdv (hf 1 71 (by kernel_rfl))
     exact ⟨.bool true,by simp [go_sem,e0,f0],rfl⟩
    ·refine step_pure rfl fun A ww hb hw hf => ?_
     have e0:A.tmps[72]?.getD undef = .bool true:=gdv (hf 2 72 (by kernel_rfl))
     exact ⟨.bool true,by simp [go_sem,e0],rfl⟩
    ·exact absurd hwn (by decide)
    ·exact absurd hwn (by decide)
    ·exact absurd hwn (by decide)
    ·exact absurd hwn (by decide)
    ·exact absurd hwn (by decide)
    ·exact absurd hwn (by decide)
    ·exact absurd hwn (by decide)
    ·exact absurd hwn (by decide)
    ·refine step_pure rfl fun A ww hb hw hf => ?_
     have e0:A.tmps[73]?.getD undef = .bool true:=gdv (hf 3 73 (by kernel_rfl))
     exact ⟨.bool true,by simp [go_sem,e0],rfl⟩
   ·intro i o ho A WW hf
    have hiN:i < 13:=(Array.getElem?_eq_some_iff.1 ho).1
    obtain rfl | rfl | rfl | rfl | rfl | rfl | rfl | rfl | rfl | rfl | rfl | rfl | rfl:i=0∨i=1∨i=2∨i=3∨i=4∨i=5∨i=6∨i=7∨i=8∨i=9∨i=10∨i=11∨i=12:=by omega
    ·cases ho;exact .inl ⟨rfl,wanted_none rfl⟩
    ·cases ho;exact .inl ⟨rfl,wanted_none rfl⟩
    ·cases ho;exact .inl ⟨rfl,wanted_none rfl⟩
    ·cases ho;exact .inl ⟨rfl,wanted_none rfl⟩
    ·cases ho;exact .inr ⟨wanted_off rfl (by kernel_rfl) (hf 3 73 (by kernel_rfl)) (by decide),rfl⟩
    ·cases ho;exact .inr ⟨wanted_off rfl (by kernel_rfl) (hf 3 73 (by kernel_rfl)) (by decide),rfl⟩
    ·cases ho;exact .inr ⟨wanted_off rfl (by kernel_rfl) (hf 3 73 (by kernel_rfl)) (by decide),rfl⟩
    ·cases ho;exact .inr ⟨wanted_off rfl (by kernel_rfl) (hf 3 73 (by kernel_rfl)) (by decide),rfl⟩
    ·cases ho;exact .inr ⟨wanted_off rfl (by kernel_rfl) (hf 3 73 (by kernel_rfl)) (by decide),rfl⟩
    ·cases ho;exact .inr ⟨wanted_off rfl (by kernel_rfl) (hf 3 73 (by kernel_rfl)) (by decide),rfl⟩
    ·cases ho;exact .inr ⟨wanted_off rfl (by kernel_rfl) (hf 3 73 (by kernel_rfl)) (by decide),rfl⟩
    ·cases ho;exact .inr ⟨wanted_off rfl (by kernel_rfl) (hf 3 73 (by kernel_rfl)) (by decide),rfl⟩
    ·cases ho;exact .inl ⟨rfl,wanted_none rfl⟩
   ·intro A V4 hb' hw hF
    have e2:=hF 12 82 (by kernel_rfl)
    obtain ⟨vs,hvs⟩:∃ vs:Nat→Value,∀ d,A.tmps.getD d undef=vs d:=⟨_,fun _=>rfl⟩
    rw [hvs] at e2
    rw [puts_guard (md := .any) (by kernel_rfl) rfl hb' vs hvs]
    clear hb' hF hvs
    have e3:vs 82 = .bool true:=e2
    clear e2
    simp only [puts,e3,Act.put,List.setIfInBounds_toArray,List.set_cons_succ,List.set_cons_zero]
    clear e3
    generalize vs 70=z70 at *
    generalize vs 71=z71 at *
    generalize vs 72=z72 at *
    generalize vs 73=z73 at *
    generalize vs 74=z74 at *
    generalize vs 75=z75 at *
    generalize vs 76=z76 at *
    generalize vs 77=z77 at *
    generalize vs 78=z78 at *
    generalize vs 79=z79 at *
    generalize vs 80=z80 at *
    generalize vs 81=z81 at *
    have Z4:=Z3.up hw
    have N4:=nxt N3 hw
    have Q4:=QC.out V4 hw
    have M4:=hide (HMM.out.up hw)
    have T4:=hide (HTT.out.up hw)
    clear Z3 N3 QC HQ HMM HTT HF HEn hw RTV SLT RT
    have Z:=Z4
    have N:=N4
    clear Z4 N4
    go_upto_region 15 with fail
    have THR:=Z.thereG
    have RR:=World.rangeAt_setCells_same V4 w.heap.size 0 [.int .i64 3,.int .i64 0,.int .i64 0,.slice none 0 0,.slice none 0 0,.string ⟨#[]⟩,.slice none 0 0,.slice none 0 0,.int .i64 0,.int .i64 0,.slice none 0 0,.bool false,.slice none 0 0,.slice none 0 0,.int .i64 0] THR
    have OQ:=only_setG V4 w.heap.size [.int .i64 3,.int .i64 0,.int .i64 0,.slice none 0 0,.slice none 0 0,.string ⟨#[]⟩,.slice none 0 0,.slice none 0 0,.int .i64 0,.int .i64 0,.slice none 0 0,.bool false,.slice none 0 0,.slice none 0 0,.int .i64 0] 0
    have RES:Hid ((∃ p,Ending.returned (.agg #[.int .i64 3,.int .i64 0,.int .i64 0,.slice none 0 0,.slice none 0 0,.string ⟨#[]⟩,.slice none 0 0,.slice none 0 0,.int .i64 0,.int .i64 0,.slice none 0 0,.bool false,.slice none 0 0,.slice none 0 0,.int .i64 0]) = .returned (.agg (rsV (dmC xs (i:Int)) p (dmR xs (i:Int)) (dmE xs (i:Int))))∧HasM (V4.setCells w.heap.size 0 [.int .i64 3,.int .i64 0,.int .i64 0,.slice none 0 0,.slice none 0 0,.string ⟨#[]⟩,.slice none 0 0,.slice none 0 0,.int .i64 0,.int .i64 0,.slice none 0 0,.bool false,.slice none 0 0,.slice none 0 0,.int .i64 0]) p (dmR xs (i:Int))∧∀ b,b < w.heap.size→NoM b p (dmR xs (i:Int)))∧Below w.heap.size w (V4.setCells w.heap.size 0 [.int .i64 3,.int .i64 0,.int .i64 0,.slice none 0 0,.slice none 0 0,.string ⟨#[]⟩,.slice none 0 0,.slice none 0 0,.int .i64 0,.int .i64 0,.slice none 0 0,.bool false,.slice none 0 0,.slice none 0 0,.int .i64 0])):=by
     have hC:dmC xs (i:Int)=3:=by rw [HIC.out,GG.out];simp [f0]
     have hR:dmR xs (i:Int)=msg0:=by unfold dmR;rw [hC];rfl
     have hE:dmE xs (i:Int)=0:=by unfold dmE;rw [hC];rfl
     rw [hC,hR,hE]
     exact ⟨⟨mq0,rfl,hasM0 _,fun _ _=>noM0 _⟩,N.trans (OQ.below (Nat.le_refl _))⟩
    clear OQ Z N
    go_wp2_with (refine wpList_store_mid rfl 31 (.tmp 4) (.tmp 83) rfl w.heap.size 0 #[.int .i64 3,.int .i64 0,.int .i64 0,.slice none 0 0,.slice none 0 0,.string ⟨#[]⟩,.slice none 0 0,.slice none 0 0,.int .i64 0,.int .i64 0,.slice none 0 0,.bool false,.slice none 0 0,.slice none 0 0,.int .i64 0] rfl rfl THR iMR (one15 _ rfl) ?_)
    exact bodyPost_ret (v := .agg #[.int .i64 3,.int .i64 0,.int .i64 0,.slice none 0 0,.slice none 0 0,.string ⟨#[]⟩,.slice none 0 0,.slice none 0 0,.int .i64 0,.int .i64 0,.slice none 0 0,.bool false,.slice none 0 0,.slice none 0 0,.int .i64 0]) (results_cellG Tryz.results12 _ _ w.heap.size _ d15 rfl RR hd15 hrow15 iMR) rfl RES.out
end Go.Proofs.YtmmbkkfjiaoeiaaGreat
namespace Go.Proofs.YtmmbkkfjiaoeiaaGreat
open Go Go.RowKit
def DcP (w:World) (xs:List Int) (at_:Int) (e:Ending) (w':World):Prop:=(∃ p bs F,e = .returned (.agg (rsV (dmC xs at_) p (dmR xs at_) (dmE xs at_)))∧w.heap.size≤F 0∧AnsM w' F p (dmR xs at_) bs)∧Below w.heap.size w w'
set_option maxRecDepth 100000 in
set_option maxHeartbeats 4000000 in
theorem decode_out (w:World) (mq:Nat) (a:Option Addr) (c:Nat) (xs:List Int) (at_:Int) (ho:at_ < 0∨(xs.length:Int) < at_) :
  Calls Tryz.prog 24 #[.map (some mq),.slice a xs.length c,.int .i64 at_] w fun e w'=>DcP w xs at_ (e) (w'):=by
 have HO:=hide ho
 have Z:RwC (w.alloc (.cells #[.int .i64 0,.int .i64 0,.int .i64 0,.slice none 0 0,.slice none 0 0,.string ⟨#[]⟩,.slice none 0 0,.slice none 0 0,.int .i64 0,.int .i64 0,.slice none 0 0,.bool false,.slice none 0 0,.slice none 0 0,.int .i64 0] 31)) w.heap.size [.int .i64 0,.int .i64 0,.int .i64 0,.slice none 0 0,.slice none 0 0,.string ⟨#[]⟩,.slice none 0 0,.slice none 0 0,.int .i64 0,.int .i64 0,.slice none 0 0,.bool false,.slice none 0 0,.slice none 0 0,.int .i64 0] 31:=RwC.new w _ _
 have N:Below w.heap.size w (w.alloc (.cells #[.int .i64 0,.int .i64 0,.int .i64 0,.slice none 0 0,.slice none 0 0,.string ⟨#[]⟩,.slice none 0 0,.slice none 0 0,.int .i64 0,.int .i64 0,.slice none 0 0,.bool false,.slice none 0 0,.slice none 0 0,.int .i64 0] 31)):=(Below.refl _ _).alloc (Nat.le_refl _) _
 obtain ⟨d15,hd15,hrow15⟩:=rowMR
 go_enter Tryz.func24,Tryz.ntmps24
 go_upto_region 1 with fail
 generalize w.alloc (.cells #[.int .i64 0,.int .i64 0,.int .i64 0,.slice none 0 0,.slice none 0 0,.string ⟨#[]⟩,.slice none 0 0,.slice none 0 0,.int .i64 0,.int .i64 0,.slice none 0 0,.bool false,.slice none 0 0,.slice none 0 0,.int .i64 0] 31)=W at *
 by_cases h0:at_ < 0
 ·have t0 : decide (at_ < 0) = true := decide_eq_true h0
  clear ho
  go_upto_region 2 with fail
  have THR:=Z.thereG
  have RR:=World.rangeAt_setCells_same W w.heap.size 0 [.int .i64 2,.int .i64 0,.int .i64 0,.slice none 0 0,.slice none 0 0,.string ⟨#[]⟩,.slice none 0 0,.slice none 0 0,.int .i64 0,.int .i64 0,.slice none 0 0,.bool false,.slice none 0 0,.slice none 0 0,.int .i64 0] THR
  have OQ:=only_setG W w.heap.size [.int .i64 2,.int .i64 0,.int .i64 0,.slice none 0 0,.slice none 0 0,.string ⟨#[]⟩,.slice none 0 0,.slice none 0 0,.int .i64 0,.int .i64 0,.slice none 0 0,.bool false,.slice none 0 0,.slice none 0 0,.int .i64 0] 0
  have RES:Hid (DcP w xs at_ (Ending.returned (.agg #[.int .i64 2,.int .i64 0,.int .i64 0,.slice none 0 0,.slice none 0 0,.string ⟨#[]⟩,.slice none 0 0,.slice none 0 0,.int .i64 0,.int .i64 0,.slice none 0 0,.bool false,.slice none 0 0,.slice none 0 0,.int .i64 0])) ((W.setCells w.heap.size 0 [.int .i64 2,.int .i64 0,.int .i64 0,.slice none 0 0,.slice none 0 0,.string ⟨#[]⟩,.slice none 0 0,.slice none 0 0,.int .i64 0,.int .i64 0,.slice none 0 0,.bool false,.slice none 0 0,.slice none 0 0,.int .i64 0]))):=by
   have hC:dmC xs at_=2:=by unfold dmC;rw [if_pos HO.out]
   have hR:dmR xs at_=msg0:=by unfold dmR;rw [hC];rfl
   have hE:dmE xs at_=0:=by unfold dmE;rw [hC];rfl
   show (∃ p bs F,Ending.returned (.agg #[.int .i64 2,.int .i64 0,.int .i64 0,.slice none 0 0,.slice none 0 0,.string ⟨#[]⟩,.slice none 0 0,.slice none 0 0,.int .i64 0,.int .i64 0,.slice none 0 0,.bool false,.slice none 0 0,.slice none 0 0,.int .i64 0]) = .returned (.agg (rsV (dmC xs at_) p (dmR xs at_) (dmE xs at_)))∧w.heap.size≤F 0∧AnsM (W.setCells w.heap.size 0 [.int .i64 2,.int .i64 0,.int .i64 0,.slice none 0 0,.slice none 0 0,.string ⟨#[]⟩,.slice none 0 0,.slice none 0 0,.int .i64 0,.int .i64 0,.slice none 0 0,.bool false,.slice none 0 0,.slice none 0 0,.int .i64 0]) F p (dmR xs at_) bs)∧Below w.heap.size w (W.setCells w.heap.size 0 [.int .i64 2,.int .i64 0,.int .i64 0,.slice none 0 0,.slice none 0 0,.string ⟨#[]⟩,.slice none 0 0,.slice none 0 0,.int .i64 0,.int .i64 0,.slice none 0 0,.bool false,.slice none 0 0,.slice none 0 0,.int .i64 0])
   rw [hC,hR,hE]
   exact ⟨⟨mq0,[],fun _=>w.heap.size,rfl,Nat.le_refl _,AnsM.zero _ _⟩,N.trans (OQ.below (Nat.le_refl _))⟩
  clear OQ Z N
  go_wp2_with (refine wpList_store_mid rfl 31 (.tmp 6) (.tmp 20) rfl w.heap.size 0 #[.int .i64 2,.int .i64 0,.int .i64 0,.slice none 0 0,.slice none 0 0,.string ⟨#[]⟩,.slice none 0 0,.slice none 0 0,.int .i64 0,.int .i64 0,.slice none 0 0,.bool false,.slice none 0 0,.slice none 0 0,.int .i64 0] rfl rfl THR iMR (one15 _ rfl) ?_)
  exact bodyPost_ret (v := .agg #[.int .i64 2,.int .i64 0,.int .i64 0,.slice none 0 0,.slice none 0 0,.string ⟨#[]⟩,.slice none 0 0,.slice none 0 0,.int .i64 0,.int .i64 0,.slice none 0 0,.bool false,.slice none 0 0,.slice none 0 0,.int .i64 0]) (results_cellG Tryz.results24 _ _ w.heap.size _ d15 rfl RR hd15 hrow15 iMR) rfl RES.out
 ·have h1 : (xs.length : Int) < at_ := by omega
  have t0:decide (at_ < 0)=false:=decide_eq_false h0
  have t1:decide ((xs.length:Int) < at_)=true:=decide_eq_true h1
  clear ho
  go_upto_region 2 with fail
  have THR:=Z.thereG
  have RR:=World.rangeAt_setCells_same W w.heap.size 0 [.int .i64 2,.int .i64 0,.int .i64 0,.slice none 0 0,.slice none 0 0,.string ⟨#[]⟩,.slice none 0 0,.slice none 0 0,.int .i64 0,.int .i64 0,.slice none 0 0,.bool false,.slice none 0 0,.slice none 0 0,.int .i64 0] THR
  have OQ:=only_setG W w.heap.size [.int .i64 2,.int .i64 0,.int .i64 0,.slice none 0 0,.slice none 0 0,.string ⟨#[]⟩,.slice none 0 0,.slice none 0 0,.int .i64 0,.int .i64 0,.slice none 0 0,.bool false,.slice none 0 0,.slice none 0 0,.int .i64 0] 0
  have RES:Hid (DcP w xs at_ (Ending.returned (.agg #[.int .i64 2,.int .i64 0,.int .i64 0,.slice none 0 0,.slice none 0 0,.string ⟨#[]⟩,.slice none 0 0,.slice none 0 0,.int .i64 0,.int .i64 0,.slice none 0 0,.bool false,.slice none 0 0,.slice none 0 0,.int .i64 0])) ((W.setCells w.heap.size 0 [.int .i64 2,.int .i64 0,.int .i64 0,.slice none 0 0,.slice none 0 0,.string ⟨#[]⟩,.slice none 0 0,.slice none 0 0,.int .i64 0,.int .i64 0,.slice none 0 0,.bool false,.slice none 0 0,.slice none 0 0,.int .i64 0]))):=by
   have hC:dmC xs at_=2:=by unfold dmC;rw [if_pos HO.out]
   have hR:dmR xs at_=msg0:=by unfold dmR;rw [hC];rfl
   have hE:dmE xs at_=0:=by unfold dmE;rw [hC];rfl
   show (∃ p bs F,Ending.returned (.agg #[.int .i64 2,.int .i64 0,.int .i64 0,.slice none 0 0,.slice none 0 0,.string ⟨#[]⟩,.slice none 0 0,.slice none 0 0,.int .i64 0,.int .i64 0,.slice none 0 0,.bool false,.slice none 0 0,.slice none 0 0,.int .i64 0]) = .returned (.agg (rsV (dmC xs at_) p (dmR xs at_) (dmE xs at_)))∧w.heap.size≤F 0∧AnsM (W.setCells w.heap.size 0 [.int .i64 2,.int .i64 0,.int .i64 0,.slice none 0 0,.slice none 0 0,.string ⟨#[]⟩,.slice none 0 0,.slice none 0 0,.int .i64 0,.int .i64 0,.slice none 0 0,.bool false,.slice none 0 0,.slice none 0 0,.int .i64 0]) F p (dmR xs at_) bs)∧Below w.heap.size w (W.setCells w.heap.size 0 [.int .i64 2,.int .i64 0,.int .i64 0,.slice none 0 0,.slice none 0 0,.string ⟨#[]⟩,.slice none 0 0,.slice none 0 0,.int .i64 0,.int .i64 0,.slice none 0 0,.bool false,.slice none 0 0,.slice none 0 0,.int .i64 0])
   rw [hC,hR,hE]
   exact ⟨⟨mq0,[],fun _=>w.heap.size,rfl,Nat.le_refl _,AnsM.zero _ _⟩,N.trans (OQ.below (Nat.le_refl _))⟩
  clear OQ Z N
  go_wp2_with (refine wpList_store_mid rfl 31 (.tmp 6) (.tmp 20) rfl w.heap.size 0 #[.int .i64 2,.int .i64 0,.int .i64 0,.slice none 0 0,.slice none 0 0,.string ⟨#[]⟩,.slice none 0 0,.slice none 0 0,.int .i64 0,.int .i64 0,.slice none 0 0,.bool false,.slice none 0 0,.slice none 0 0,.int .i64 0] rfl rfl THR iMR (one15 _ rfl) ?_)
  exact bodyPost_ret (v := .agg #[.int .i64 2,.int .i64 0,.int .i64 0,.slice none 0 0,.slice none 0 0,.string ⟨#[]⟩,.slice none 0 0,.slice none 0 0,.int .i64 0,.int .i64 0,.slice none 0 0,.bool false,.slice none 0 0,.slice none 0 0,.int .i64 0]) (results_cellG Tryz.results24 _ _ w.heap.size _ d15 rfl RR hd15 hrow15 iMR) rfl RES.out
set_option maxRecDepth 100000 in
set_option maxHeartbeats 4000000 in
theorem decode_pre (w:World) (mq:Nat) (g:Nat) (a:Option Addr) (c:Nat) (xs:List Int) (i:Nat) (hi:i≤xs.length) (hm:w.heap[mq]?=some (.map regE 9)) (hr:Rd w g a .u8 xs) (hb:Byt xs) (_hz:a=none→c=0) (hc:xs.length≤c) (hx:xs.length≤1048576) (hp:dmP (xs.drop i)≠0) :
  Calls Tryz.prog 24 #[.map (some mq),.slice a xs.length c,.int .i64 (i:Int)] w fun e w'=>DcP w xs (i:Int) (e) (w'):=by
 have Z:RwC (w.alloc (.cells #[.int .i64 0,.int .i64 0,.int .i64 0,.slice none 0 0,.slice none 0 0,.string ⟨#[]⟩,.slice none 0 0,.slice none 0 0,.int .i64 0,.int .i64 0,.slice none 0 0,.bool false,.slice none 0 0,.slice none 0 0,.int .i64 0] 31)) w.heap.size [.int .i64 0,.int .i64 0,.int .i64 0,.slice none 0 0,.slice none 0 0,.string ⟨#[]⟩,.slice none 0 0,.slice none 0 0,.int .i64 0,.int .i64 0,.slice none 0 0,.bool false,.slice none 0 0,.slice none 0 0,.int .i64 0] 31:=RwC.new w _ _
 have N:Below w.heap.size w (w.alloc (.cells #[.int .i64 0,.int .i64 0,.int .i64 0,.slice none 0 0,.slice none 0 0,.string ⟨#[]⟩,.slice none 0 0,.slice none 0 0,.int .i64 0,.int .i64 0,.slice none 0 0,.bool false,.slice none 0 0,.slice none 0 0,.int .i64 0] 31)):=(Below.refl _ _).alloc (Nat.le_refl _) _
 obtain ⟨d15,hd15,hrow15⟩:=rowMR
 go_enter Tryz.func24,Tryz.ntmps24
 go_upto_region 1 with fail
 generalize w.alloc (.cells #[.int .i64 0,.int .i64 0,.int .i64 0,.slice none 0 0,.slice none 0 0,.string ⟨#[]⟩,.slice none 0 0,.slice none 0 0,.int .i64 0,.int .i64 0,.slice none 0 0,.bool false,.slice none 0 0,.slice none 0 0,.int .i64 0] 31)=W at *
 have ml:mq < w.heap.size:=(Array.getElem?_eq_some_iff.1 hm).1
 have t0:decide ((i:Int) < 0)=false:=decide_eq_false (by omega)
 have t1:decide ((xs.length:Int) < (i:Int))=false:=decide_eq_false (by omega)
 go_upto_region 3 with fail
 obtain ⟨ys,ey⟩:∃ ys,xs.drop i=ys:=⟨_,rfl⟩
 have ly:ys.length=xs.length - i:=by rw [← ey,List.length_drop]
 have SLC:=sl_low W a xs.length c i ys.length hi hc ly
 have RY:Rd W g (slA a i c) .u8 ys:=by rw [← ey];exact (hr.up N).slD hc i
 have BY:Byt ys:=by rw [← ey];exact byt_drop hb i
 have LY:ys.length≤1048576:=by omega
 have EY:Hid (xs.drop ((i:Int)).toNat=ys):=ey
 have LYH:=hide ly
 have M1:W.heap[mq]?=some (.map regE 9):=(N.block mq ml).trans hm
 have BS:=hide (bodySize_any W mq g (slA a i c) (c - i) ys M1 RY BY LY)
 clear ly ey t0 t1
 generalize slA a i c=aR at *
 generalize c - i=cR at *
 go_wp2_with (refine wpList_slT _ rfl 22 (.tmp 23) (some (.tmp 24)) none rfl (.slice a xs.length c) (some (.int .i64 (i:Int))) none rfl rfl rfl _ SLC ?_)
 refine BS.out.mono ?_
 rintro e W1 ⟨rfl,n1⟩
 have Z1:=Z.up n1
 have N1:=nxt N n1
 clear BS SLC Z N RY n1
 have Z:=Z1
 have N:=N1
 clear Z1 N1
 have eP:xs.drop i=ys:=EY.out
 rw [eP] at hp
 rw [if_neg hp]
 obtain ⟨cd,ecd⟩:∃ x,Hid (dmP ys=x):=⟨_,rfl⟩
 rw [ecd.out] at hp ⊢
 have HP:=hide hp
 have u0:(cd == 0)=false:=beq_eq_false_iff_ne.2 hp
 have HI:=hide hi
 clear hr hb hc hm eP hi
 go_upto_region 5 with fail
 have THR:=Z.thereG
 have RR:=World.rangeAt_setCells_same W1 w.heap.size 0 [.int .i64 (cd),.int .i64 0,.int .i64 0,.slice none 0 0,.slice none 0 0,.string ⟨#[]⟩,.slice none 0 0,.slice none 0 0,.int .i64 0,.int .i64 0,.slice none 0 0,.bool false,.slice none 0 0,.slice none 0 0,.int .i64 0] THR
 have OQ:=only_setG W1 w.heap.size [.int .i64 (cd),.int .i64 0,.int .i64 0,.slice none 0 0,.slice none 0 0,.string ⟨#[]⟩,.slice none 0 0,.slice none 0 0,.int .i64 0,.int .i64 0,.slice none 0 0,.bool false,.slice none 0 0,.slice none 0 0,.int .i64 0] 0
 have RES:Hid (DcP w xs (i:Int) (Ending.returned (.agg #[.int .i64 (cd),.int .i64 0,.int .i64 0,.slice none 0 0,.slice none 0 0,.string ⟨#[]⟩,.slice none 0 0,.slice none 0 0,.int .i64 0,.int .i64 0,.slice none 0 0,.bool false,.slice none 0 0,.slice none 0 0,.int .i64 0])) ((W1.setCells w.heap.size 0 [.int .i64 (cd),.int .i64 0,.int .i64 0,.slice none 0 0,.slice none 0 0,.string ⟨#[]⟩,.slice none 0 0,.slice none 0 0,.int .i64 0,.int .i64 0,.slice none 0 0,.bool false,.slice none 0 0,.slice none 0 0,.int .i64 0]))):=by
  have hC:dmC xs (i:Int)=cd:=by unfold dmC;rw [if_neg (by have:=HI.out;omega),EY.out,ecd.out,if_pos HP.out]
  have hR:dmR xs (i:Int)=msg0:=by unfold dmR;rw [hC];rw [if_neg HP.out]
  have hE:dmE xs (i:Int)=0:=by unfold dmE;rw [hC];rw [if_neg HP.out]
  show (∃ p bs F,Ending.returned (.agg #[.int .i64 (cd),.int .i64 0,.int .i64 0,.slice none 0 0,.slice none 0 0,.string ⟨#[]⟩,.slice none 0 0,.slice none 0 0,.int .i64 0,.int .i64 0,.slice none 0 0,.bool false,.slice none 0 0,.slice none 0 0,.int .i64 0]) = .returned (.agg (rsV (dmC xs (i:Int)) p (dmR xs (i:Int)) (dmE xs (i:Int))))∧w.heap.size≤F 0∧AnsM (W1.setCells w.heap.size 0 [.int .i64 (cd),.int .i64 0,.int .i64 0,.slice none 0 0,.slice none 0 0,.string ⟨#[]⟩,.slice none 0 0,.slice none 0 0,.int .i64 0,.int .i64 0,.slice none 0 0,.bool false,.slice none 0 0,.slice none 0 0,.int .i64 0]) F p (dmR xs (i:Int)) bs)∧Below w.heap.size w (W1.setCells w.heap.size 0 [.int .i64 (cd),.int .i64 0,.int .i64 0,.slice none 0 0,.slice none 0 0,.string ⟨#[]⟩,.slice none 0 0,.slice none 0 0,.int .i64 0,.int .i64 0,.slice none 0 0,.bool false,.slice none 0 0,.slice none 0 0,.int .i64 0])
  rw [hC,hR,hE]
  exact ⟨⟨mq0,[],fun _=>w.heap.size,rfl,Nat.le_refl _,AnsM.zero _ _⟩,N.trans (OQ.below (Nat.le_refl _))⟩
 clear OQ Z N
 go_wp2_with (refine wpList_store_mid rfl 31 (.tmp 6) (.tmp 32) rfl w.heap.size 0 #[.int .i64 (cd),.int .i64 0,.int .i64 0,.slice none 0 0,.slice none 0 0,.string ⟨#[]⟩,.slice none 0 0,.slice none 0 0,.int .i64 0,.int .i64 0,.slice none 0 0,.bool false,.slice none 0 0,.slice none 0 0,.int .i64 0] rfl rfl THR iMR (one15 _ rfl) ?_)
 exact bodyPost_ret (v := .agg #[.int .i64 (cd),.int .i64 0,.int .i64 0,.slice none 0 0,.slice none 0 0,.string ⟨#[]⟩,.slice none 0 0,.slice none 0 0,.int .i64 0,.int .i64 0,.slice none 0 0,.bool false,.slice none 0 0,.slice none 0 0,.int .i64 0]) (results_cellG Tryz.results24 _ _ w.heap.size _ d15 rfl RR hd15 hrow15 iMR) rfl RES.out
end Go.Proofs.YtmmbkkfjiaoeiaaGreat
