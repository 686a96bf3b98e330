import Derived.Test.YtnpolopcgmjmnaaGreatDoorVF32
namespace Go.Proofs.YtnpolopcgmjmnaaGreatDoor
set_option maxRecDepth 100000
open Go.RowKit
theorem and1u8 (x:Int) (h0:0≤x) (h1:x < 256):bits BinOp.and IntKind.u8 x 1=x % 2 :=
 bits_mask .u8 8 (by decide) (fun n a b=>by rw [IntKind.wrap_u8];omega) 1 (by decide) x h0 h1
theorem Blk.setRow {w:World} {g:Nat} {k:IntKind} {ys zs:List Int} (h:Blk w g k ys):Blk (w.setRow g ((zs.map (Value.int k)).toArray)) g k zs:=by
 obtain ⟨e,h⟩:=h
 exact ⟨e,setRow_heap _ _ _ _ _ _ h⟩
theorem Blk.row {w:World} {g g':Nat} {k:IntKind} {ys:List Int} {cs:Array Value} (h:Blk w g k ys) (hne:g≠g'):Blk (w.setRow g' cs) g k ys :=
 h.of_block (setRow_other w g' g cs hne)
theorem below_row {B:Nat} {w w':World} (h:Below B w w') {g:Nat} (cs:Array Value) (hg:B≤g):Below B w (w'.setRow g cs) :=
 h.trans ⟨rfl,rfl,rfl,by simp [World.setRow],fun i hi=>setRow_other w' _ i _ (by omega)⟩
theorem pw_sq {A m s t:Int} {e:Nat} (h:t % m=A ^ e % m) (hs:s % m=t*t % m):s % m=A ^ (2*e) % m:=by
 rw [hs,Int.mul_emod,h,pow_sq]
theorem pw_on {A m s t:Int} {e:Nat} (h:t % m=A ^ e % m) (hs:s % m=t*A % m):s % m=A ^ (e+1) % m:=by
 rw [hs,Int.mul_emod,h,← Int.mul_emod,Int.pow_succ]
theorem pbit {es:List Int} (hb:Byt es) {E k:Nat} (hE:(E:Int)=bval es) (hk:k < 8*es.length):((E / 2 ^ (8*es.length - (k+1)) % 2:Nat):Int)=es.getD (k / 8) 0 / 2 ^ (7 - k % 8) % 2:=by
 have h:=nbit hE (bbit hb (8*es.length - (k+1)))
 rw [h,show (8*es.length - (k+1)) / 8=es.length - 1 - k / 8 by omega,show (8*es.length - (k+1)) % 8=7 - k % 8 by omega]
 unfold dig
 rw [if_pos (by omega),show es.length - 1 - (es.length - 1 - k / 8)=k / 8 by omega]
theorem phalf {E k n:Nat} (hk:k < 8*n):E / 2 ^ (8*n - (k+1))=2*(E / 2 ^ (8*n - k))+E / 2 ^ (8*n - (k+1)) % 2:=by
 have h:=half_of E (8*n - (k+1))
 rw [show 8*n - (k+1)+1=8*n - k by omega] at h
 exact h
theorem pstep0 {es:List Int} (hb:Byt es) {E k:Nat} (hE:(E:Int)=bval es) (hk:k < 8*es.length) (h:¬ es.getD (k / 8) 0 / 2 ^ (7 - k % 8) % 2=1):E / 2 ^ (8*es.length - (k+1))=2*(E / 2 ^ (8*es.length - k)):=by
 have a:=pbit hb hE hk
 have b:=phalf (E:=E) hk
 generalize E / 2 ^ (8*es.length - (k+1))=P at *
 generalize E / 2 ^ (8*es.length - k)=Q at *
 generalize es.getD (k / 8) 0 / 2 ^ (7 - k % 8)=X at *
 omega
theorem pstep1 {es:List Int} (hb:Byt es) {E k:Nat} (hE:(E:Int)=bval es) (hk:k < 8*es.length) (h:es.getD (k / 8) 0 / 2 ^ (7 - k % 8) % 2=1):E / 2 ^ (8*es.length - (k+1))=2*(E / 2 ^ (8*es.length - k))+1:=by
 have a:=pbit hb hE hk
 have b:=phalf (E:=E) hk
 generalize E / 2 ^ (8*es.length - (k+1))=P at *
 generalize E / 2 ^ (8*es.length - k)=Q at *
 generalize es.getD (k / 8) 0 / 2 ^ (7 - k % 8)=X at *
 omega
theorem ptop {es:List Int} (hb:Byt es) {E:Nat} (hE:(E:Int)=bval es):E / 2 ^ (8*es.length - 0)=0:=by
 have:=bval_lt hb
 rw [← hE,p256_2] at this
 exact Nat.div_eq_of_lt (by exact_mod_cast this)
set_option maxHeartbeats 4000000 in
theorem l2Power_any (w : World) (a : Nat → Int) (g : Nat) (b : Option Addr) (c : Nat) (es : List Int) (ha : L16 a) (hr : Rd w g b .u8 es) (hb : Byt es) (hl : es.length ≤ 4096) :
  Calls Tryz.prog 60 #[ag16 a,.slice b es.length c] w fun r w'=>∃ t,r = .returned (ag16 t)∧L16 t∧s16 t 16 % PP=s16 a 16 ^ (bval es).toNat % PP∧Below w.heap.size w w':=by
 show Calls Tryz.prog 60 #[.agg (a16 a),.slice b es.length c] w fun r w'=>∃ t,r = .returned (.agg (a16 t))∧L16 t∧s16 t 16 % PP=s16 a 16 ^ (bval es).toNat % PP∧Below w.heap.size w w'
 have B0:Blk (w.alloc (.cells (a16 a) 36)) w.heap.size .i64 (ls16 a):=blk16 w 36 a
 have n0:Below w.heap.size w (w.alloc (.cells (a16 a) 36)):=(Below.refl _ _).alloc (Nat.le_refl _) _
 have s0:(w.alloc (.cells (a16 a) 36)).heap.size=w.heap.size+1:=by simp
 have MU:=hide (fun w t (ht:L16 t)=>l2Mul_any w t t ht ht)
 have MA:=hide (fun w t (ht:L16 t)=>l2Mul_any w t a ht ha)
 obtain ⟨A,hA⟩:∃ A,A=a16 a:=⟨_,rfl⟩
 have HA:=hide hA
 rw [← hA] at B0 n0 s0 ⊢
 clear hA
 have hE:(((bval es).toNat:Nat):Int)=bval es:=Int.toNat_of_nonneg (bval_nonneg hb)
 obtain ⟨E,hEE⟩:∃ E,(bval es).toNat=E:=⟨_,rfl⟩
 rw [hEE] at hE ⊢
 have HE:=hide hE
 clear hEE hE
 go_enter Tryz.func60,Tryz.ntmps60
 go_upto_region 1 with fail
 rw [z16]
 generalize w.alloc (.cells A 36)=wa at *
 have B1:Blk (wa.alloc (.cells (a16 (fun _=>0)) 36)) wa.heap.size .i64 (ls16 (fun _=>0)):=blk16 wa 36 (fun _=>0)
 have n1:Below wa.heap.size wa (wa.alloc (.cells (a16 (fun _=>0)) 36)):=(Below.refl _ _).alloc (Nat.le_refl _) _
 have s1:(wa.alloc (.cells (a16 (fun _=>0)) 36)).heap.size=w.heap.size+1+1:=by simp [s0]
 rw [s0] at B1
 generalize wa.alloc (.cells (a16 (fun _=>0)) 36)=wb at *
 have E0:=B0.up n1
 have N:=nxt n0 n1
 clear B0 n0 n1 s0
 go_wp2_with fail
 refine (l2Small_any wb 1 (by omega)).mono ?_
 rintro r w1 ⟨t,rfl,LT,VT,n1⟩
 have z1:w.heap.size+1 < w1.heap.size:=by have:=n1.size;omega
 have al:Below w1.heap.size w1 (w1.alloc (.cells (a16 (fun _=>0)) 36)):=(Below.refl _ _).alloc (Nat.le_refl _) _
 have BG:Blk (w1.alloc (.cells (a16 (fun _=>0)) 36)) w1.heap.size .i64 (ls16 (fun _=>0)):=blk16 w1 36 (fun _=>0)
 have hG:(w1.alloc (.cells (a16 (fun _=>0)) 36)).heap[w1.heap.size]?=some (.cells (a16 (fun _=>0)) 36 (0,0)):=by rw [heap_alloc_last]
 have F0:=(((E0.up n1).up al).row (cs:=a16 t) (g':=w1.heap.size) (by omega))
 have F1:=(((B1.up n1).up al).row (cs:=a16 t) (g':=w1.heap.size) (by omega))
 have FG:Blk ((w1.alloc (.cells (a16 (fun _=>0)) 36)).setRow w1.heap.size (a16 t)) w1.heap.size .i64 (ls16 t):=BG.setRow
 have FN:=below_row (nxt (nxt N n1) al) (a16 t) (g:=w1.heap.size) (by omega)
 clear n1 al BG E0 B1 N s1
 go_upto_region 2 with (refine wpList_store_row rfl 36 (.tmp 5) (.tmp 7) rfl w1.heap.size (a16 t) rfl rfl 36 (a16 (fun _=>0)) hG (by rw [a16_size];exact i50) (by rw [a16_size,a16_size]) (a16_one _) ?_)
 clear hG
 rw [z16]
 generalize (w1.alloc (.cells (a16 (fun _=>0)) 36)).setRow w1.heap.size (a16 t)=w2 at *
 obtain ⟨G,hG⟩:∃ G,G=w1.heap.size:=⟨_,rfl⟩
 rw [← hG] at z1 FG ⊢
 clear hG
 generalize ag16 t=V7
 go_wp2
 go_loopw [6] (fun i wr=>∃ (k:Nat) (t:Nat→Int),k≤8*es.length∧i = .int .i64 k∧L16 t∧s16 t 16 % PP=s16 a 16 ^ (E / 2 ^ (8*es.length - k)) % PP∧Blk wr w.heap.size .i64 (ls16 a)∧Blk wr (w.heap.size+1) .i64 (ls16 (fun _=>0))∧Blk wr G .i64 (ls16 t)∧Below w.heap.size w wr) (fun i _=>8*es.length - (intOf i).toNat)
 case atStart=>exact ⟨0,t,Nat.zero_le _,rfl,LT,by rw [VT,ptop hb HE.out,Int.pow_zero],F0,F1,FG,FN⟩
 case round =>
  clear F0 F1 FG FN VT LT t
  obtain ⟨k,t,hk,rfl,LT,VT,hA,hR,hG,hN⟩:=hrel
  by_cases hlt:k < 8*es.length
  ·have k5 : (k : Int) < (es.length : Int) * 8 := by omega
   obtain ⟨off,rfl,hc⟩:=hr (by omega)
   have hg:=hr.lt (by omega)
   obtain ⟨eG,hGr⟩:=id hG
   go_upto_region 6 with (first
    | (refine wpList_load_row rfl 36 (.tmp 5) rfl G rfl eG (a16 t) (0,0) (.array 16 2) hGr Go.Proofs.YtnpolopcgmjmnaaGreatDoor.u50 rfl (by rw [a16_size];exact i50) ?_)
    | (go_at_call 34;go_must (refine (MU.out wr t LT).mono ?_;rintro r w4 ⟨u,rfl,LU,VU,n4⟩))
    | (refine wpList_store_row rfl 36 (.tmp 5) (.tmp 17) rfl G (a16 u) rfl rfl eG (a16 t) ((n4.block _ hG.lt).trans hGr) (by rw [a16_size];exact i50) (by rw [a16_size,a16_size]) (a16_one _) ?_))
   have z4:=hN.size
   have G0:=(hA.up n4).row (cs:=a16 u) (g':=G) (by omega)
   have G1:=(hR.up n4).row (cs:=a16 u) (g':=G) (by omega)
   have GG:Blk (w4.setRow G (a16 u)) G .i64 (ls16 u):=(hG.up n4).setRow
   have GN:=below_row (nxt hN n4) (a16 u) (g:=G) (by omega)
   have VV:=hide (pw_sq VT VU)
   clear hA hR hG hN hGr n4 VT VU LT z4
   generalize w4.setRow G (a16 u)=w5 at *
   have P0:=hide (pstep0 hb HE.out hlt)
   have P1:=hide (pstep1 hb HE.out hlt)
   have cx:w5.cell? ⟨g,off+k / 8,none⟩=some (.int .u8 (es.getD (k / 8) 0)):=(GN.cell (p:=⟨g,off+k / 8,none⟩) hg).trans (hc (k / 8) (by omega))
   have x0:=hb (k / 8)
   have kx:(k:Int) / 8=((k / 8:Nat):Int):=by omega
   have kr:(k:Int) % 8=((k % 8:Nat):Int):=by omega
   have ks:7 - ((k % 8:Nat):Int)=((7 - k % 8:Nat):Int):=by omega
   have r7:7 - k % 8≤7:=by omega
   have q5:((k / 8:Nat):Int) < (es.length:Int):=by omega
   generalize es.getD (k / 8) 0=x at *
   generalize k / 8=p at *
   generalize k % 8=r at *
   generalize 7 - r=s at *
   have pr:=p2pos s
   have v0:0≤x / 2 ^ s:=Int.ediv_nonneg x0.1 (by omega)
   have v1:x / 2 ^ s < 256:=Int.lt_of_le_of_lt (Int.ediv_le_self _ x0.1) (by omega)
   have e1:=and1u8 _ v0 v1
   by_cases hbit:x / 2 ^ s % 2=1
   ·have tb1 : (x / 2 ^ s % 2 == 1) = true := by simp [hbit]
    obtain ⟨eG,hGr⟩:=id GG
    obtain ⟨eA,hAr⟩:=id G0
    go_wp2_with (first
     | (refine wpList_load_row rfl 36 (.tmp 5) rfl G rfl eG (a16 u) (0,0) (.array 16 2) hGr Go.Proofs.YtnpolopcgmjmnaaGreatDoor.u50 rfl (by rw [a16_size];exact i50) ?_)
     | (refine wpList_load_row rfl 36 (.tmp 2) rfl w.heap.size rfl eA (a16 a) (0,0) (.array 16 2) hAr Go.Proofs.YtnpolopcgmjmnaaGreatDoor.u50 rfl (by rw [a16_size];exact i50) ?_)
     | (go_at_call 34;go_must (refine (MA.out w5 u LU).mono ?_;rintro r w6 ⟨v,rfl,LV,VW,n6⟩))
     | (refine wpList_store_row rfl 36 (.tmp 5) (.tmp 32) rfl G (a16 v) rfl rfl eG (a16 u) ((n6.block _ GG.lt).trans hGr) (by rw [a16_size];exact i50) (by rw [a16_size,a16_size]) (a16_one _) ?_))
    go_roundw
    case rel=>exact ⟨k+1,v,by omega,by go_num,LV,by rw [P1.out hbit];exact pw_on VV.out VW,(G0.up n6).row (by omega),(G1.up n6).row (by omega),(GG.up n6).setRow,below_row (nxt GN n6) _ (by omega)⟩
    case measure=>simp [intOf];omega
   ·have tb1 : (x / 2 ^ s % 2 == 1) = false := by simp [hbit]
    go_wp2
    go_roundw
    case rel=>exact ⟨k+1,u,by omega,by go_num,LU,by rw [P0.out hbit];exact VV.out,G0,G1,GG,GN⟩
    case measure=>simp [intOf];omega
  ·obtain rfl : k = 8 * es.length := by omega
   have VV:=hide VT
   clear VT
   have k5:decide (((8*es.length:Nat):Int) < (es.length:Int)*8)=false:=by simp;omega
   have HGN:=below_row hN (a16 t) (g:=w.heap.size+1) (by omega)
   obtain ⟨eG,hGr⟩:=hG
   obtain ⟨t2,hRr⟩:=hR
   have SR:((wr.setRow (w.heap.size+1) (a16 t)).heap[w.heap.size+1]?)=some (.cells (a16 t) t2 (0,0)):=setRow_heap _ _ _ _ _ _ hRr
   go_upto_region 8 with fail
   go_wp2_with (first
    | (refine wpList_load_row rfl 36 (.tmp 5) rfl G rfl eG (a16 t) (0,0) (.array 16 2) hGr Go.Proofs.YtnpolopcgmjmnaaGreatDoor.u50 rfl (by rw [a16_size];exact i50) ?_)
    | (refine wpList_store_row rfl 36 (.tmp 4) (.tmp 33) rfl (w.heap.size+1) (a16 t) rfl rfl t2 (a16 (fun _=>0)) hRr (by rw [a16_size];exact i50) (by rw [a16_size,a16_size]) (a16_one _) ?_))
   exact bodyPost_ret (v := .agg (a16 t)) (results_cell_row Tryz.results60 _ _ (w.heap.size+1) t2 (a16 t) (0,0) (.array 16 2) rfl SR Go.Proofs.YtnpolopcgmjmnaaGreatDoor.u50 rfl (by rw [a16_size];exact i50)) rfl ⟨_,rfl,LT,by have:=VV.out;rw [Nat.sub_self,Nat.pow_zero,Nat.div_one] at this;exact this,HGN⟩
end Go.Proofs.YtnpolopcgmjmnaaGreatDoor
