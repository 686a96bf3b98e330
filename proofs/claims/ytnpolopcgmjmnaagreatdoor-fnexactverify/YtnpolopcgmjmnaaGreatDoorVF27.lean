import Derived.Test.YtnpolopcgmjmnaaGreatDoorVF26
namespace Go.Proofs.YtnpolopcgmjmnaaGreatDoor
set_option maxRecDepth 100000
open Go.RowKit
theorem s16_congr {u v:Nat→Int}:∀ k,(∀ j,j < k→u j=v j)→s16 u k=s16 v k
 | 0,_=>rfl
 | k+1,h=>by rw [s16,s16,s16_congr k (fun j hj=>h j (by omega)),h k (by omega)]
theorem s16_upd (p:Nat→Int) (q:Nat) (v:Int):∀ n,s16 (fun k=>if k=q then v else p k) n=s16 p n+if q < n then (v - p q)*65536 ^ q else 0
  | 0=>by simp [s16]
  | n + 1 => by
    rw [s16,s16,s16_upd p q v n]
    by_cases e:n=q
    · subst e
      rw [if_pos rfl,if_neg (by omega),if_pos (by omega),Int.sub_mul];omega
    · rw [if_neg e]
      by_cases h:q < n
      · rw [if_pos h,if_pos (by omega)];omega
      · rw [if_neg h,if_neg (by omega)];omega
theorem getD_set_fun (cs:List Int) (q:Nat) (v:Int) (hq:q < cs.length):(fun k=>(cs.set q v).getD k 0)=fun k=>if k=q then v else cs.getD k 0:=by
 funext k
 by_cases e:k=q
 ·subst e;rw [if_pos rfl,getD_set_self _ _ _ hq]
 ·rw [if_neg e,getD_set_ne _ _ _ _ (by omega)]
def Cl (a b:Nat→Int) (cs:List Int) (i j:Nat):Prop :=
 cs.length=32∧(∀ k,0≤cs.getD k 0∧cs.getD k 0≤((i*16+j:Nat):Int)*4294967296)∧s16 (fun k=>cs.getD k 0) 32=s16 a i*s16 b 16+a i*65536 ^ i*s16 b j
theorem Cl.step {a b:Nat→Int} {cs:List Int} {i j:Nat} (h:Cl a b cs i j) (ha:L16 a) (hb:L16 b) (hi:i < 16) (hj:j < 16) (v:Int) (hv:v=cs.getD (i+j) 0+a i*b j):Cl a b (cs.set (i+j) v) i (j+1):=by
 obtain ⟨h1,h2,h3⟩:=h
 have xi:=ha i hi
 have yj:=hb j hj
 have m:=mul_bd (A:=65535) (B:=65535) ⟨xi.1,by omega⟩ ⟨yj.1,by omega⟩
 refine ⟨by simpa using h1,fun k=>?_,?_⟩
 ·have hk := h2 k
  have hij:=h2 (i+j)
  by_cases e:i+j=k
  ·subst e
   rw [getD_set_self _ _ _ (by omega),hv];omega
  ·rw [getD_set_ne _ _ _ _ e];omega
 ·have hs : s16 b (j + 1) = s16 b j + b j * 65536 ^ j := rfl
  rw [getD_set_fun _ _ _ (by omega),s16_upd,if_pos (by omega),h3,hv,hs,Int.pow_add]
  generalize (65536:Int) ^ i=p
  generalize (65536:Int) ^ j=q
  generalize cs.getD (i+j) 0=c
  grind
theorem Cl.row {a b:Nat→Int} {cs:List Int} {i:Nat} (h:Cl a b cs i 16):Cl a b cs (i+1) 0:=by
 obtain ⟨h1,h2,h3⟩:=h
 refine ⟨h1,fun k=>by have:=h2 k;omega,?_⟩
 have hs:s16 a (i+1)=s16 a i+a i*65536 ^ i:=rfl
 have h0:s16 b 0=0:=rfl
 rw [h3,hs,h0]
 generalize (65536:Int) ^ i=p
 grind
theorem Cl.zero (a b:Nat→Int):Cl a b (List.replicate 32 0) 0 0:=by
 have e:(fun k=>(List.replicate 32 (0:Int)).getD k 0)=fun _=>0:=by
  funext k
  by_cases h:k < 32
  ·rw [List.getD_eq_getElem?_getD,List.getElem?_replicate,if_pos h];rfl
  ·rw [List.getD_eq_getElem?_getD,List.getElem?_eq_none (by simp;omega)];rfl
 refine ⟨by simp,fun k=>?_,?_⟩
 ·have h : (List.replicate 32 (0 : Int)).getD k 0 = 0 := congrFun e k
  rw [h];omega
 ·rw [e];simp [s16]
theorem s16_split (p:Nat→Int) (m:Nat):∀ n,s16 p (m+n)=s16 p m+65536 ^ m*s16 (fun k=>p (m+k)) n
  | 0=>by simp [s16]
  | n + 1 => by
    rw [← Nat.add_assoc,s16,s16_split p m n,s16,Int.pow_add,Int.mul_add,Int.mul_left_comm,Int.add_assoc]
theorem s16_lin (p q:Nat→Int) (c:Int):∀ n,s16 (fun k=>p k+c*q k) n=s16 p n+c*s16 q n
 | 0=>by simp [s16]
 | n+1=>by rw [s16,s16_lin p q c n,s16,s16,Int.add_mul,Int.mul_add,Int.mul_assoc];omega
def fold (cs:List Int) (i:Nat):Int:=if i < 16 then cs.getD i 0+38*cs.getD (16+i) 0 else 0
theorem Cl.fold {a b:Nat→Int} {cs:List Int} (h:Cl a b cs 16 0):In60 (fold cs)∧s16 (Go.Proofs.YtnpolopcgmjmnaaGreatDoor.fold cs) 16 % PP=s16 a 16*s16 b 16 % PP:=by
 obtain ⟨h1,h2,h3⟩:=h
 refine ⟨fun j=>?_,?_⟩
 ·have a1 := h2 j
  have a2:=h2 (16+j)
  unfold Go.Proofs.YtnpolopcgmjmnaaGreatDoor.fold
  split <;> omega
 ·have e1 : s16 (Go.Proofs.YtnpolopcgmjmnaaGreatDoor.fold cs) 16 = s16 (fun k => cs.getD k 0 + 38 * (fun k => cs.getD (16 + k) 0) k) 16 := s16_congr 16 (fun j hj => by simp [Go.Proofs.YtnpolopcgmjmnaaGreatDoor.fold, hj])
  rw [e1,s16_lin (fun k=>cs.getD k 0) (fun k=>cs.getD (16+k) 0) 38 16]
  have e2:=s16_split (fun k=>cs.getD k 0) 16 16
  rw [h3] at e2
  have e3:(65536:Int) ^ 16=115792089237316195423570985008687907853269984665640564039457584007913129639936:=by decide
  have e4:a 16*65536 ^ 16*s16 b 0=0:=by simp [s16]
  rw [e4] at e2
  rw [e3] at e2
  generalize s16 a 16*s16 b 16=X at *
  generalize s16 (fun k=>cs.getD k 0) 16=L at *
  generalize s16 (fun k=>cs.getD (16+k) 0) 16=H at *
  show (L+38*H) % 57896044618658097711785492504343953926634992332820282019728792003956564819949=X % 57896044618658097711785492504343953926634992332820282019728792003956564819949
  omega
theorem z32:(#[.int .i64 0,.int .i64 0,.int .i64 0,.int .i64 0,.int .i64 0,.int .i64 0,.int .i64 0,.int .i64 0,.int .i64 0,.int .i64 0,.int .i64 0,.int .i64 0,.int .i64 0,.int .i64 0,.int .i64 0,.int .i64 0,.int .i64 0,.int .i64 0,.int .i64 0,.int .i64 0,.int .i64 0,.int .i64 0,.int .i64 0,.int .i64 0,.int .i64 0,.int .i64 0,.int .i64 0,.int .i64 0,.int .i64 0,.int .i64 0,.int .i64 0,.int .i64 0]:Array Value)=((List.replicate 32 0).map (Value.int .i64)).toArray:=rfl
set_option maxHeartbeats 2000000 in
theorem l2Mul_any (w : World) (a b : Nat → Int) (ha : L16 a) (hb : L16 b) :
  Calls Tryz.prog 34 #[ag16 a,ag16 b] w fun r w'=>∃ t,r = .returned (ag16 t)∧L16 t∧s16 t 16 % PP=s16 a 16*s16 b 16 % PP∧Below w.heap.size w w':=by
 show Calls Tryz.prog 34 #[.agg (a16 a),.agg (a16 b)] w fun r w'=>∃ t,r = .returned (.agg (a16 t))∧L16 t∧s16 t 16 % PP=s16 a 16*s16 b 16 % PP∧Below w.heap.size w w'
 have B0:Blk (w.alloc (.cells (a16 a) 36)) w.heap.size .i64 (ls16 a):=blk16 w 36 a
 have n0:Below w.heap.size w (w.alloc (.cells (a16 a) 36)):=(Below.refl _ _).alloc (Nat.le_refl _) _
 have s0:(w.alloc (.cells (a16 a) 36)).heap.size=w.heap.size+1:=by simp
 have B1:∀ w:World,Blk (w.alloc (.cells (a16 b) 36)) w.heap.size .i64 (ls16 b):=fun w=>blk16 w 36 b
 have n1:∀ w:World,Below w.heap.size w (w.alloc (.cells (a16 b) 36)):=fun w=>(Below.refl _ _).alloc (Nat.le_refl _) _
 have s1:∀ w:World,(w.alloc (.cells (a16 b) 36)).heap.size=w.heap.size+1:=fun w=>by simp
 obtain ⟨A,hA⟩:∃ A,A=a16 a:=⟨_,rfl⟩
 obtain ⟨B,hB⟩:∃ A,A=a16 b:=⟨_,rfl⟩
 rw [← hA] at B0 n0 s0 ⊢
 simp only [← hB] at B1 n1 s1 ⊢
 clear hA hB
 go_enter Tryz.func34,Tryz.ntmps34
 go_wp2
 generalize w.alloc (.cells A 36)=wa at *
 have B1':=B1 wa
 have n1':=n1 wa
 have s1':=s1 wa
 rw [s0] at B1' s1'
 clear B1 n1 s1
 generalize wa.alloc (.cells B 36)=wb at *
 rw [z16]
 have B2:Blk (wb.alloc (.cells (a16 (fun _=>0)) 36)) wb.heap.size .i64 (ls16 (fun _=>0)):=blk16 wb 36 (fun _=>0)
 have n2:Below wb.heap.size wb (wb.alloc (.cells (a16 (fun _=>0)) 36)):=(Below.refl _ _).alloc (Nat.le_refl _) _
 have s2:(wb.alloc (.cells (a16 (fun _=>0)) 36)).heap.size=w.heap.size+1+1+1:=by simp [s1']
 rw [s1'] at B2
 generalize wb.alloc (.cells (a16 (fun _=>0)) 36)=wc at *
 rw [z32]
 have B3:Blk (wc.alloc (.cells ((List.replicate 32 0).map (Value.int .i64)).toArray 102)) wc.heap.size .i64 (List.replicate 32 0):=⟨102,by rw [heap_alloc_last]⟩
 have n3:Below wc.heap.size wc (wc.alloc (.cells ((List.replicate 32 0).map (Value.int .i64)).toArray 102)):=(Below.refl _ _).alloc (Nat.le_refl _) _
 have s3:(wc.alloc (.cells ((List.replicate 32 0).map (Value.int .i64)).toArray 102)).heap.size=w.heap.size+1+1+1+1:=by simp [s2]
 rw [s2] at B3
 generalize wc.alloc (.cells ((List.replicate 32 0).map (Value.int .i64)).toArray 102)=wd at *
 have E0:=((B0.up n1').up n2).up n3
 have E1:=(B1'.up n2).up n3
 have E2:=B2.up n3
 have N:=nxt (nxt (nxt n0 n1') n2) n3
 clear B0 B1' B2 n0 n1' n2 n3 s0 s1' s2
 go_loopw [6] (fun i wr=>∃ (k:Nat) (cs:List Int),k≤16∧i = .int .i64 k∧Cl a b cs k 0∧Blk wr w.heap.size .i64 (ls16 a)∧Blk wr (w.heap.size+1) .i64 (ls16 b)∧Blk wr (w.heap.size+1+1) .i64 (ls16 (fun _=>0))∧Blk wr (w.heap.size+1+1+1) .i64 cs∧wr.heap.size=w.heap.size+1+1+1+1∧Below w.heap.size w wr) (fun i _=>16 - (intOf i).toNat)
 case atStart=>exact ⟨0,_,by omega,rfl,Cl.zero a b,E0,E1,E2,B3,s3,N⟩
 case round =>
  clear E0 E1 E2 B3 N s3
  obtain ⟨k,cs,hk,rfl,hC,hA,hB,hR,hS,hz,hN⟩:=hrel
  by_cases hlt:k < 16
  ·have k2 : decide ((k : Int) < 16) = true := by simp; omega
   have k3:(k:Int) < 16:=by omega
   have ca:=hA.cell (i:=k) (by rw [ls16_len];exact hlt)
   rw [ls16_get _ hlt] at ca
   have xk:=ha k hlt
   obtain ⟨x,hx⟩:∃ x,x=a k:=⟨_,rfl⟩
   rw [← hx] at ca xk
   have HX:=hide hx
   clear hx
   go_wp2
   go_loopw [8] (fun i wq=>∃ (j:Nat) (ds:List Int),j≤16∧i = .int .i64 j∧Cl a b ds k j∧Blk wq w.heap.size .i64 (ls16 a)∧Blk wq (w.heap.size+1) .i64 (ls16 b)∧Blk wq (w.heap.size+1+1) .i64 (ls16 (fun _=>0))∧Blk wq (w.heap.size+1+1+1) .i64 ds∧wq.heap.size=w.heap.size+1+1+1+1∧Below w.heap.size w wq) (fun i _=>16 - (intOf i).toNat)
   case atStart=>exact ⟨0,cs,by omega,rfl,hC,hA,hB,hR,hS,hz,hN⟩
   case round =>
    clear hC hA hB hR hS hz hN ca cs
    obtain ⟨j,ds,hj,rfl,hC,hA,hB,hR,hS,hz,hN⟩:=hrel
    by_cases hjt:j < 16
    ·have j2 : (j : Int) < 16 := by omega
     have cb:=hB.cell (i:=j) (by rw [ls16_len];exact hjt)
     rw [ls16_get _ hjt] at cb
     have yj:=hb j hjt
     have cc:=hS.cell (i:=k+j) (by rw [hC.1];omega)
     have fc:=hS.free (k+j)
     have dj:=hC.2.1 (k+j)
     have R:=fun v hv=>hC.step ha hb hlt hjt v hv
     rw [← HX.out] at R
     have m:=mul_bd (A:=65535) (B:=65535) ⟨xk.1,by omega⟩ ⟨yj.1,by omega⟩
     have dm:ds.getD (k+j) 0≤1099511627776:=by omega
     obtain ⟨p,hp⟩:∃ p:Nat,k+j=p:=⟨_,rfl⟩
     rw [hp] at cc fc dj R dm
     have p1:(k:Int)+(j:Int)=(p:Int):=by omega
     have p2:IntKind.i64.wrap (p:Int)=(p:Int):=by rw [IntKind.wrap_i64];omega
     have p3:(p:Int) < 32:=by omega
     have S:=fun v=>hS.store p v
     have SA:=fun v=>hide (hA.keep (g':=w.heap.size+1+1+1) (k:=p) (v:=v) (by omega))
     have SB:=fun v=>hide (hB.keep (g':=w.heap.size+1+1+1) (k:=p) (v:=v) (by omega))
     have SR:=fun v=>hide (hR.keep (g':=w.heap.size+1+1+1) (k:=p) (v:=v) (by omega))
     have Sn:∀ v,Below w.heap.size w (wr.setCell ⟨w.heap.size+1+1+1,p,none⟩ v):=fun v=>hN.setCell (by show w.heap.size≤w.heap.size+1+1+1;omega) v
     have Sz:∀ v,Hid ((wr.setCell ⟨w.heap.size+1+1+1,p,none⟩ v).heap.size=w.heap.size+1+1+1+1):=fun v=>by show _=_;simp [World.setCell,hz]
     have x1:IntKind.i64.wrap (x*b j)=x*b j:=by rw [IntKind.wrap_i64];omega
     have x2:IntKind.i64.wrap (ds.getD p 0+x*b j)=ds.getD p 0+x*b j:=by rw [IntKind.wrap_i64];omega
     have R':=hide (R (ds.getD p 0+x*b j) rfl)
     clear hC hA hB hR hS hz hN R hp dj m
     generalize b j=y at *
     generalize ds.getD p 0=d at *
     go_wp2
     go_region
     go_wp2
     go_roundw
     case rel=>exact ⟨j+1,_,by omega,by go_num,R'.out,(SA _).out.drew,(SB _).out.drew,(SR _).out.drew,(S _).drew,(Sz _).out,(Sn _).drew⟩
     case measure=>simp [intOf];omega
    ·obtain rfl : j = 16 := by omega
     have R:=hide hC.row
     clear hC
     go_wp2
     go_roundw
     case rel=>exact ⟨k+1,_,by omega,by go_num,R.out,hA,hB,hR,hS,hz,hN⟩
     case measure=>simp [intOf];omega
  ·obtain rfl : k = 16 := by omega
   clear hA hB
   have G:=hide hC.fold
   have cw:=fun j=>(hC.2.1 j)
   have cl:=hC.1
   clear hC
   go_wp2
   rw [z16]
   have B4:Blk (wr.alloc (.cells (a16 (fun _=>0)) 36)) wr.heap.size .i64 (ls16 (fun _=>0)):=blk16 wr 36 (fun _=>0)
   have n4:Below wr.heap.size wr (wr.alloc (.cells (a16 (fun _=>0)) 36)):=(Below.refl _ _).alloc (Nat.le_refl _) _
   rw [hz] at B4
   have R4:=hR.up n4
   have S4:=hS.up n4
   have N4:=nxt hN n4
   generalize wr.alloc (.cells (a16 (fun _=>0)) 36)=we at *
   clear hR hS hN n4 hz
   go_loopw [10] (fun i wq=>∃ (j:Nat) (ys:List Int),j≤16∧i = .int .i64 j∧Up16 (fold cs) (fun _=>0) ys j∧Blk wq (w.heap.size+1+1) .i64 (ls16 (fun _=>0))∧Blk wq (w.heap.size+1+1+1) .i64 cs∧Blk wq (w.heap.size+1+1+1+1) .i64 ys∧Below w.heap.size w wq) (fun i _=>16 - (intOf i).toNat)
   case atStart=>exact ⟨0,_,by omega,rfl,Up16.zero _ _,R4,S4,B4,N4⟩
   case round =>
    clear R4 S4 B4 N4
    obtain ⟨j,ys,hj,rfl,hU,hR,hS,hF,hN⟩:=hrel
    by_cases hjt:j < 16
    ·have j2 : (j : Int) < 16 := by omega
     have c1:=hS.cell (i:=j) (by omega)
     have c2:=hS.cell (i:=16+j) (by omega)
     have ff:=hF.free j
     have cf:=hF.cell (i:=j) (by rw [hU.1];exact hjt)
     generalize ys.getD j 0=f0 at cf
     have w1:=cw j
     have w2:=cw (16+j)
     have R:=hU.step hjt
     have E:fold cs j=cs.getD j 0+38*cs.getD (16+j) 0:=if_pos hjt
     rw [E] at R
     obtain ⟨p,hp⟩:∃ p:Nat,16+j=p:=⟨_,rfl⟩
     rw [hp] at c2 w2 R
     have p1:(j:Int)+16=(p:Int):=by omega
     have p2:IntKind.i64.wrap (p:Int)=(p:Int):=by rw [IntKind.wrap_i64];omega
     have p3:(p:Int) < 32:=by omega
     have j3:(j:Int) < 32:=by omega
     have S:=fun v=>hF.store j v
     have SR:=fun v=>hide (hR.keep (g':=w.heap.size+1+1+1+1) (k:=j) (v:=v) (by omega))
     have SS:=fun v=>hide (hS.keep (g':=w.heap.size+1+1+1+1) (k:=j) (v:=v) (by omega))
     have Sn:∀ v,Below w.heap.size w (wr.setCell ⟨w.heap.size+1+1+1+1,j,none⟩ v):=fun v=>hN.setCell (by show w.heap.size≤w.heap.size+1+1+1+1;omega) v
     have x1:IntKind.i64.wrap (38*cs.getD p 0)=38*cs.getD p 0:=by rw [IntKind.wrap_i64];omega
     have x2:IntKind.i64.wrap (cs.getD j 0+38*cs.getD p 0)=cs.getD j 0+38*cs.getD p 0:=by rw [IntKind.wrap_i64];omega
     have R':=hide R
     clear hU hR hS hF hN R hp E cw cl
     generalize cs.getD j 0=d at *
     generalize cs.getD p 0=e at *
     go_wp2
     go_region
     go_wp2
     go_roundw
     case rel=>exact ⟨j+1,_,by omega,by go_num,R'.out,(SR _).out.drew,(SS _).out.drew,(S _).drew,(Sn _).drew⟩
     case measure=>simp [intOf];omega
    ·obtain rfl : j = 16 := by omega
     have hy:=hU.all
     subst hy
     clear hU cw cl hS
     have K:=cry_ok G.out.1
     have hl:=hR.lt
     obtain ⟨t,hF⟩:=hF
     obtain ⟨t2,hR⟩:=hR
     have SR:∀ w2,Below wr.heap.size wr w2→((w2.setRow (w.heap.size+1+1) (a16 (cry (fold cs)))).heap[w.heap.size+1+1]?)=some (.cells (a16 (cry (fold cs))) t2 (0,0)):=fun w2 h2=>setRow_heap _ _ _ _ _ _ ((h2.block _ hl).trans hR)
     have SN:∀ w2,Below wr.heap.size wr w2→Below w.heap.size w (w2.setRow (w.heap.size+1+1) (a16 (cry (fold cs)))):=fun w2 h2=>(nxt hN h2).trans ⟨rfl,rfl,rfl,by simp,fun i hi=>setRow_other w2 _ i _ (by omega)⟩
     go_upto_region 15 with fail
     go_wp2_with (first
      | (refine wpList_load_row rfl 36 (.tmp 9) rfl (w.heap.size+1+1+1+1) rfl t (a16 (fold cs)) (0,0) (.array 16 2) hF Go.Proofs.YtnpolopcgmjmnaaGreatDoor.u50 rfl (by rw [a16_size];exact i50) ?_)
      | (go_at_call 42;refine (l2Carry_any _ (fold cs) G.out.1).mono ?_;rintro r w2 ⟨rfl,n2⟩)
      | (refine wpList_store_row rfl 36 (.tmp 4) (.tmp 53) rfl (w.heap.size+1+1) (a16 (cry (fold cs))) rfl rfl t2 (a16 (fun _=>0)) ((n2.block _ hl).trans hR) (by rw [a16_size];exact i50) (by rw [a16_size,a16_size]) (a16_one _) ?_))
     exact bodyPost_ret (v := .agg (a16 (cry (fold cs)))) (results_cell_row Tryz.results34 _ _ (w.heap.size+1+1) t2 (a16 (cry (fold cs))) (0,0) (.array 16 2) rfl (SR _ n2) Go.Proofs.YtnpolopcgmjmnaaGreatDoor.u50 rfl (by rw [a16_size];exact i50)) rfl ⟨_,rfl,K.1,K.2.trans G.out.2,SN _ n2⟩
end Go.Proofs.YtnpolopcgmjmnaaGreatDoor
