import Derived.Test.YtnpolopcgmjmnaaGreatDoorVF33
namespace Go.Proofs.YtnpolopcgmjmnaaGreatDoor
set_option maxRecDepth 100000
open Go.RowKit
set_option maxRecDepth 100000 in
set_option maxHeartbeats 2000000 in
theorem l1Sub_any (w : World) (g g' : Nat) (a b : Option Addr) (ca cb : Nat) (xs us : List Int) (ha : Rd w g a .u8 xs) (hb : Rd w g' b .u8 us) (hx : Byt xs) (hu : Byt us)
  (hn:xs.length≤4096) (hm:us.length≤xs.length) (hle:bval us≤bval xs) :
  Calls Tryz.prog 61 #[.slice a xs.length ca,.slice b us.length cb] w fun e w'=>∃ ys,Canon ys (bval xs - bval us)∧NewRow w.heap.size w' e .u8 ys∧Below w.heap.size w w':=by
 obtain ⟨i0,hi,hz0,hz1,hz2⟩:=info_parts Tryz.info5
 go_enter Tryz.func61,Tryz.ntmps61
 go_wp2_with (at_make;refine wpList_make_full _ rfl _ _ 22 rfl w.heap.size 5 i0 (.int .u8 0) 1 Tryz.underlying22 hi hz0 hz1 .i64 .i64 _ _ xs.length rfl rfl rfl rfl (by rw [hz2];omega) (by unfold maxLen;omega) (Nat.le_refl _) ?_;intro w1 hown hgrow)
 have hB0:=Blk.of_made hown
 have hN0:Below w.heap.size w w1:=(Below.refl _ _).grown hgrow (Nat.le_refl _) (by simp)
 clear hown hgrow
 go_loopw [7,8] (fun q i wr=>∃ (k:Nat) (c:Int) (ys:List Int),k≤xs.length∧i = .int .i64 k∧q = .int .i64 c∧(0≤c∧c≤1)∧SubTo xs us ys k c∧Blk wr w.heap.size .u8 ys∧Below w.heap.size w wr) (fun _ i _=>xs.length - (intOf i).toNat)
 case atStart=>exact ⟨0,0,_,Nat.zero_le _,rfl,rfl,⟨by omega,by omega⟩,⟨by simp,byt_zeros _,⟨by omega,by omega⟩,rfl⟩,hB0,hN0⟩
 case round =>
  obtain ⟨k,c,ys,hk,rfl,rfl,hc,hA,hB,hN⟩:=hrel
  by_cases hlt:k < xs.length
  ·have R := hA.step hlt
   have hl:ys.length=xs.length:=hA.1
   have hS:=fun v=>hB.store (xs.length - 1 - k) v
   have hSn:∀ v,Below w.heap.size w (wr.setCell ⟨w.heap.size,xs.length - 1 - k,none⟩ v):=fun v=>hN.setCell (Nat.le_refl _) v
   have hcy:wr.cell? ⟨w.heap.size,xs.length - 1 - k,none⟩=some (.int .u8 (ys.getD (xs.length - 1 - k) 0)):=hB.cell (by omega)
   have hfy:=hB.free (xs.length - 1 - k)
   have d1:=dig_byt hx k
   have d2:=dig_byt hu k
   obtain ⟨p,hp⟩:∃ p:Nat,xs.length - 1 - k=p:=⟨_,rfl⟩
   rw [hp] at hcy hfy R
   simp only [hp] at hS hSn
   have p1:(xs.length:Int) - 1 - (k:Int)=(p:Int):=by omega
   have p2:(p:Int) < (xs.length:Int):=by omega
   have ha':=ha.up hN
   have hb':=hb.up hN
   have R':=hide R
   clear hB hN hA hl hp R
   go_wp2_with fail
   refine (l1Digit_any wr g a ca xs _ ha' hx (by omega) (by omega) (by omega)).mono ?_
   rintro e w' ⟨rfl,rfl⟩
   rw [Int.toNat_natCast]
   go_wp2_with fail
   refine (l1Digit_any w' g' b cb us _ hb' hu (by omega) (by omega) (by omega)).mono ?_
   rintro e w'' ⟨rfl,rfl⟩
   rw [Int.toNat_natCast]
   generalize dig xs k=x at *
   generalize dig us k=y at *
   by_cases hv:x - y - c < 0
   ·have tv : decide (x - y - c < 0) = true := by simp; omega
    have m1:(x - y - c+256) % 256=x - y - c+256:=by omega
    go_wp2
    go_roundw
    case rel=>exact ⟨k+1,_,_,by omega,by go_num,rfl,⟨by omega,by omega⟩,R'.out (x - y - c+256) 1 (by omega) (by omega) (by omega) ⟨by omega,by omega⟩,hS _,hSn _⟩
    case measure=>simp [intOf];omega
   ·have tv : decide (x - y - c < 0) = false := by simp; omega
    have m1:(x - y - c) % 256=x - y - c:=by omega
    go_wp2
    go_roundw
    case rel=>exact ⟨k+1,_,_,by omega,by go_num,rfl,⟨by omega,by omega⟩,R'.out (x - y - c) 0 (by omega) (by omega) (by omega) ⟨by omega,by omega⟩,hS _,hSn _⟩
    case measure=>simp [intOf];omega
  ·obtain rfl : k = xs.length := by omega
   have V:=hide (hA.done hm hle)
   have L:=hide hA.1
   have hyb:=hA.2.1
   clear hA
   go_wp2_with fail
   rw [← L.out]
   refine (l1Trim_any wr _ _ _ ys hB.own0.rd hyb (by simp) (Nat.le_refl _) (by rw [L.out];omega)).mono ?_
   rintro e w2 ⟨zs,C,_,⟨a1,c1,g1,rfl,o1,q1,q2,q3⟩,n2⟩
   rw [V.out] at C
   go_wp2
   go_ret
   exact ⟨zs,C,⟨_,_,_,rfl,o1,q1,q2,by have:=hN.size;omega⟩,nxt hN n2⟩
end Go.Proofs.YtnpolopcgmjmnaaGreatDoor
