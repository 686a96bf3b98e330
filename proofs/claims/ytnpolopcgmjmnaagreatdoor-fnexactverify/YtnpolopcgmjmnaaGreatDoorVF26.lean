import Derived.Test.YtnpolopcgmjmnaaGreatDoorVF25
import Derived.Laws.BitsLemmas
import Derived.Laws.Rows
import Derived.Laws.Tables
import Derived.Deep.DeepCutAuto
namespace Go.Proofs.YtnpolopcgmjmnaaGreatDoor
set_option maxRecDepth 100000
open Go.RowKit
theorem and65535 (n:Int):bits .and .i64 n 65535=n % 65536:=by
 have h127:(BitVec.ofInt 64 65535).toNat=2 ^ 16 - 1:=by decide
 have key:(BitVec.ofInt 64 n &&& BitVec.ofInt 64 65535).toNat=(n % ((2 ^ 64:Nat):Int)).toNat % 2 ^ 16:=by
  rw [BitVec.toNat_and,BitVec.toNat_ofInt,h127,Nat.and_two_pow_sub_one_eq_mod]
 show IntKind.i64.wrap ((BitVec.ofInt 64 n &&& BitVec.ofInt 64 65535).toNat:Nat)=n % 65536
 rw [key,IntKind.wrap_i64]
 omega
def ls16 (f:Nat→Int):List Int:=(List.range 16).map f
theorem ls16_len (f:Nat→Int):(ls16 f).length=16:=by simp [ls16]
theorem ls16_get (f:Nat→Int) {j:Nat} (h:j < 16):(ls16 f).getD j 0=f j:=by simp [ls16,h]
def ag16 (f:Nat→Int):Value := .agg ((ls16 f).map (Value.int .i64)).toArray
theorem blk16 (w:World) (t:TypeId) (f:Nat→Int):Blk (w.alloc (.cells ((ls16 f).map (Value.int .i64)).toArray t)) w.heap.size .i64 (ls16 f):=⟨t,by rw [heap_alloc_last]⟩
def Up16 (p q:Nat→Int) (ys:List Int) (k:Nat):Prop:=ys.length=16∧(∀ j,j < k→ys.getD j 0=p j)∧∀ j,k≤j→j < 16→ys.getD j 0=q j
theorem Up16.step {p q:Nat→Int} {ys:List Int} {k:Nat} (h:Up16 p q ys k) (hk:k < 16):Up16 p q (ys.set k (p k)) (k+1):=by
 refine ⟨by simpa using h.1,fun j hj=>?_,fun j hj hj5=>?_⟩
 ·by_cases e : k = j
  ·subst e
   rw [getD_set_self _ _ _ (by rw [h.1];exact hk)]
  ·rw [getD_set_ne _ _ _ _ e]
   exact h.2.1 j (by omega)
 ·rw [getD_set_ne _ _ _ _ (by omega)]
  exact h.2.2 j (by omega) hj5
theorem Up16.all {p q:Nat→Int} {ys:List Int} (h:Up16 p q ys 16):ys=ls16 p :=
 eq_of_getD (by rw [h.1,ls16_len]) (fun i hi=>by rw [h.1] at hi;rw [h.2.1 i hi,ls16_get p hi])
theorem Up16.zero (p q:Nat→Int):Up16 p q (ls16 q) 0:=⟨ls16_len q,fun j hj=>absurd hj (by omega),fun j _ hj=>ls16_get q hj⟩
theorem ls16_set (p:Nat→Int) (v:Int):(ls16 p).set 0 v=ls16 (fun j=>if j=0 then v else p j):=by
 refine eq_of_getD (by simp [ls16]) (fun i hi=>?_)
 have hi':i < 16:=by simpa [ls16] using hi
 rw [ls16_get _ hi']
 by_cases e:i=0
 ·subst e
  rw [getD_set_self _ _ _ (by rw [ls16_len];omega)];rfl
 ·rw [getD_set_ne _ _ _ _ (by omega),ls16_get _ hi',if_neg e]
def it16 (f:Nat→Int):Nat→Nat→Int
 | 0=>f
 | k+1=>r16 (it16 f k)
def In60 (f:Nat→Int):Prop:=∀ j,-1152921504606846976≤f j∧f j≤1152921504606846976
theorem it16_in {f:Nat→Int} (hf:In60 f):∀ k,In60 (it16 f k)
  | 0=>hf
  | k + 1 => fun j => by
    have:=r16_bd (f:=it16 f k) (M:=17592454500000) (by omega) (fun j=>by have:=it16_in hf k j;omega) j
    show _≤r16 (it16 f k) j∧r16 (it16 f k) j≤_
    omega
abbrev a16 (f:Nat→Int):Array Value:=((ls16 f).map (Value.int .i64)).toArray
theorem a16_size (f:Nat→Int):(a16 f).size=16:=by simp [a16,ls16]
theorem a16_one (f:Nat→Int):(a16 f).all (·.oneCell')=true:=all_oneCell_toArray (oneCells _ _)
theorem z16:(#[.int .i64 0,.int .i64 0,.int .i64 0,.int .i64 0,.int .i64 0,.int .i64 0,.int .i64 0,.int .i64 0,.int .i64 0,.int .i64 0,.int .i64 0,.int .i64 0,.int .i64 0,.int .i64 0,.int .i64 0,.int .i64 0]:Array Value)=a16 (fun _=>0):=rfl
theorem u50:Tryz.prog.underlying 36=some (.array 16 2):=by kernel_rfl
theorem i50:(Tryz.prog.info? 36).map (·.size)=some 16:=by kernel_rfl
set_option maxHeartbeats 2000000 in
theorem l2Carry_any (w : World) (f : Nat → Int) (hf : In60 f) :
  Calls Tryz.prog 42 #[ag16 f] w fun r w'=>r = .returned (ag16 (cry f))∧Below w.heap.size w w':=by
 show Calls Tryz.prog 42 #[.agg (a16 f)] w fun r w'=>r = .returned (.agg (a16 (it16 f 3)))∧Below w.heap.size w w'
 have B0:=blk16 w 36 f
 have n0:Below w.heap.size w (w.alloc (.cells (a16 f) 36)):=(Below.refl _ _).alloc (Nat.le_refl _) _
 have s0:(w.alloc (.cells (a16 f) 36)).heap.size=w.heap.size+1:=by simp
 obtain ⟨A,hA⟩:∃ A,A=a16 f:=⟨_,rfl⟩
 change Blk (w.alloc (.cells (a16 f) 36)) _ _ _ at B0
 rw [← hA] at B0 n0 s0 ⊢
 clear hA
 go_enter Tryz.func42,Tryz.ntmps42
 go_wp2
 generalize w.alloc (.cells A 36)=wa at *
 rw [z16]
 have B1:=blk16 wa 36 (fun _=>0)
 have n1:Below wa.heap.size wa (wa.alloc (.cells (a16 (fun _=>0)) 36)):=(Below.refl _ _).alloc (Nat.le_refl _) _
 rw [s0] at B1
 change Blk (wa.alloc (.cells (a16 (fun _=>0)) 36)) _ _ _ at B1
 generalize wa.alloc (.cells (a16 (fun _=>0)) 36)=wb at *
 have E0:=B0.up n1
 have N1:=nxt n0 n1
 clear B0 n0 n1 s0
 go_loopw [3] (fun i wr=>∃ (k:Nat),k≤3∧i = .int .i64 k∧Blk wr w.heap.size .i64 (ls16 (it16 f k))∧Blk wr (w.heap.size+1) .i64 (ls16 (fun _=>0))∧Below w.heap.size w wr) (fun i _=>3 - (intOf i).toNat)
 case atStart=>exact ⟨0,by omega,rfl,E0,B1,N1⟩
 case round =>
  clear E0 B1 N1
  obtain ⟨k,hk,rfl,hB,hR,hN⟩:=hrel
  by_cases hlt:k < 3
  ·have k2 : decide ((k : Int) < 3) = true := by simp; omega
   have hin:=it16_in hf k
   obtain ⟨q,hq⟩:∃ q,q=it16 f k:=⟨_,rfl⟩
   have hq':Hid (it16 f (k+1)=r16 q):=by show _=_;rw [hq];rfl
   rw [← hq] at hB hin
   clear hq
   have cb:=fun j=>c16_bd (f:=q) (M:=17592454500000) (by omega) (fun j=>by have:=hin j;omega) j
   go_wp2
   go_loopw [4,5] (fun c i wq=>∃ (j:Nat) (ys:List Int),j≤16∧i = .int .i64 j∧c = .int .i64 (c16 q j)∧Up16 (l16 q) q ys j∧Blk wq w.heap.size .i64 ys∧Blk wq (w.heap.size+1) .i64 (ls16 (fun _=>0))∧Below w.heap.size w wq) (fun _ i _=>16 - (intOf i).toNat)
   case atStart=>exact ⟨0,_,by omega,rfl,rfl,Up16.zero _ q,hB,hR,hN⟩
   case round =>
    clear hB hR hN
    obtain ⟨j,ys,hj,rfl,rfl,hU,hB,hR,hN⟩:=hrel
    by_cases hjt:j < 16
    ·have R := hU.step hjt
     have hcy:=hB.cell (i:=j) (by rw [hU.1];exact hjt)
     rw [hU.2.2 j (Nat.le_refl _) hjt] at hcy
     have hfy:=hB.free j
     have j2:(j:Int) < 16:=by omega
     have cj:=cb j
     have qj:=hin j
     have S:=hB.store j (l16 q j)
     have S1:=hR.keep (g':=w.heap.size) (k:=j) (v := .int .i64 (l16 q j)) (by omega)
     have Sn:Below w.heap.size w (wr.setCell ⟨w.heap.size,j,none⟩ (.int .i64 (l16 q j))):=hN.setCell (Nat.le_refl _) _
     have E1:l16 q j=(q j+c16 q j) % 65536:=by unfold l16;rw [Int.add_comm]
     have F:Hid (c16 q (j+1)=(q j+c16 q j) / 65536):=by show _=_;rw [c16,Int.add_comm]
     rw [E1] at R S S1 Sn
     have m1:=and65535 (q j+c16 q j)
     clear hU hB hR hN cb hin E1 hf
     generalize q j=z at *
     generalize c16 q j=c at *
     go_wp2
     go_roundw
     case rel=>exact ⟨j+1,_,by omega,by go_num,by rw [F.out],R,S,S1,Sn⟩
     case measure=>simp [intOf];omega
    ·obtain rfl : j = 16 := by omega
     have hy:=hU.all
     subst hy
     have c0:wr.cell? ⟨w.heap.size,0,none⟩=some (.int .i64 (l16 q 0)):=by rw [hB.cell (i:=0) (by rw [ls16_len];omega),ls16_get _ (by omega)]
     have f0:=hB.free 0
     have l0:=l16_bd q 0
     have c5:=cb 16
     have S:=hB.store 0 (l16 q 0+38*c16 q 16)
     have S1:=hR.keep (g':=w.heap.size) (k:=0) (v := .int .i64 (l16 q 0+38*c16 q 16)) (by omega)
     have Sn:Below w.heap.size w (wr.setCell ⟨w.heap.size,0,none⟩ (.int .i64 (l16 q 0+38*c16 q 16))):=hN.setCell (Nat.le_refl _) _
     rw [ls16_set] at S
     have S':Blk (wr.setCell ⟨w.heap.size,0,none⟩ (.int .i64 (l16 q 0+38*c16 q 16))) w.heap.size .i64 (ls16 (r16 q)):=S
     clear hU hB hR hN cb hin S hf
     generalize l16 q 0=l at *
     generalize c16 q 16=c at *
     go_wp2
     go_roundw
     case rel=>exact ⟨k+1,by omega,by go_num,by rw [hq'.out];exact S',S1,Sn⟩
     case measure=>simp [intOf];omega
  ·obtain rfl : k = 3 := by omega
   obtain ⟨t,hB⟩:=hB
   obtain ⟨t2,hR⟩:=hR
   have hne:w.heap.size+1≠w.heap.size:=by omega
   have SR:((wr.setRow (w.heap.size+1) (a16 (it16 f 3))).heap[w.heap.size+1]?)=some (.cells (a16 (it16 f 3)) t2 (0,0)):=setRow_heap _ _ _ _ _ _ hR
   have SN:Below w.heap.size w (wr.setRow (w.heap.size+1) (a16 (it16 f 3))):=hN.trans ⟨rfl,rfl,rfl,by simp,fun i hi=>setRow_other wr _ i _ (by omega)⟩
   go_upto_region 12 with fail
   go_wp2_with (first | (refine wpList_load_row rfl 36 (.tmp 1) rfl w.heap.size rfl t (a16 (it16 f 3)) (0,0) (.array 16 2) hB u50 rfl (by rw [a16_size];exact i50) ?_) | (refine wpList_store_row rfl 36 (.tmp 2) (.tmp 32) rfl (w.heap.size+1) (a16 (it16 f 3)) rfl rfl t2 (a16 (fun _=>0)) hR (by rw [a16_size];exact i50) (by rw [a16_size,a16_size]) (a16_one _) ?_))
   exact bodyPost_ret (v := .agg (a16 (it16 f 3))) (results_cell_row Tryz.results42 _ _ (w.heap.size+1) t2 (a16 (it16 f 3)) (0,0) (.array 16 2) rfl SR u50 rfl (by rw [a16_size];exact i50)) rfl ⟨rfl,SN⟩
end Go.Proofs.YtnpolopcgmjmnaaGreatDoor
