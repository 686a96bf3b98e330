import Derived.Test.YtnpolopcgmjmnaaGreatDoorVF18
namespace Go.Proofs.YtnpolopcgmjmnaaGreatDoor
set_option maxRecDepth 100000
open Go.RowKit
theorem byt_app1 {ys:List Int} (h:Byt ys) (x:Int) (h0:0≤x) (h1:x < 256):Byt (ys ++ [x]):=by
 intro i
 rcases Nat.lt_trichotomy i ys.length with e | e | e
 ·have := h i
  simpa [List.getElem?_append,e] using this
 ·subst e
  simp [h0,h1]
 ·rw [List.getD_eq_getElem?_getD, List.getElem?_eq_none (by simp; omega)]
  decide
def TurnTo (xs ys:List Int) (k:Nat):Prop:=ys.length=k∧∀ i,i < k→ys.getD i 0=xs.getD (xs.length - 1 - i) 0
theorem TurnTo.step {xs ys:List Int} {k:Nat} (h:TurnTo xs ys k):TurnTo xs (ys ++ [xs.getD (xs.length - 1 - k) 0]) (k+1):=by
 refine ⟨by simp [h.1],fun i hi=>?_⟩
 by_cases e:i < k
 ·rw [← h.2 i e]
  simp [List.getElem?_append,h.1,e]
 ·obtain rfl : i = k := by omega
  simp [h.1]
theorem lo_lsum {ys:List Int} {a:Nat→Int}:∀ n,(∀ i,i < n→dig ys i=a i)→lo ys n=lsum a n
 | 0,_=>rfl
 | n+1,h=>by rw [lo,lsum,lo_lsum n (fun i hi=>h i (by omega)),h n (by omega)]
theorem TurnTo.val {xs ys:List Int} (h:TurnTo xs ys xs.length):bval ys=lsum (fun j=>xs.getD j 0) xs.length:=by
 rw [← lo_all ys xs.length (by rw [h.1];exact Nat.le_refl _)]
 refine lo_lsum _ (fun i hi=>?_)
 unfold dig
 rw [if_pos (by rw [h.1];exact hi),h.2 _ (by rw [h.1];omega),h.1]
 congr 1
 omega
theorem hi_div {xs:List Int} (hb:Byt xs):∀ i,hi xs i=bval xs / 256 ^ i
  | 0=>by rw [hi_zero];simp
  | i + 1 => by
    have h:=hi_step xs i
    have hd:=dig_byt hb i
    rw [Int.pow_succ,← Int.ediv_ediv_of_nonneg (Int.le_of_lt (p256_pos i)),← hi_div hb i]
    omega
theorem dig_of {xs:List Int} (hb:Byt xs) (i:Nat):dig xs i=byt (bval xs) i:=by
 have h:=hi_step xs i
 have hd:=dig_byt hb i
 unfold byt
 rw [← hi_div hb i]
 omega
theorem fill_congr {f g:Nat→Int} {n:Nat} (h:∀ i,i < n→f i=g i):fill f n=fill g n :=
 eq_of_getD (by rw [fill_len,fill_len]) (fun i hi=>by rw [fill_len] at hi;rw [fill_get f n i hi,fill_get g n i hi,h i hi])
set_option maxHeartbeats 2000000 in
theorem l1Turn_any (w : World) (g : Nat) (a : Option Addr) (c : Nat) (xs : List Int) (hr : Rd w g a .u8 xs) (hb : Byt xs) (hl : xs.length ≤ 1048576) :
  Calls Tryz.prog 52 #[.slice a xs.length c] w fun e w'=>∃ ys,TurnTo xs ys xs.length∧Byt ys∧NewRow w.heap.size w' e .u8 ys∧Below w.heap.size w w':=by
 obtain ⟨i0,hi,hz0,hz1,hz2⟩:=info_parts Tryz.info5
 have hown0:(w.alloc (.cells #[] 5)).ownsRow w.heap.size 5 1 (.slice (some ⟨w.heap.size,0,none⟩) 0 0) 0 []:=World.ownsRow_lit w #[] 0 (Nat.le_refl _) (by unfold maxLen;omega) (by simp)
 have hal:Below w.heap.size w (w.alloc (.cells #[] 5)):=(Below.refl _ _).alloc (Nat.le_refl _) _
 go_enter Tryz.func52,Tryz.ntmps52
 go_wp2
 go_loopw [3,4] (fun v i wr=>∃ (k:Nat) (t:Int) (ys:List Int),i = .int .i64 t∧t+(k:Int)+1=(xs.length:Int) ∧ -1≤t∧TurnTo xs ys k∧Byt ys∧wr.ownsRow w.heap.size 5 1 v k (ys.map (Value.int .u8))∧Below w.heap.size w wr) (fun _ i _=>(intOf i+1).toNat)
 case atStart=>exact ⟨0,(xs.length:Int) - 1,[],rfl,by omega,by omega,⟨rfl,fun i h=>absurd h (by omega)⟩,byt_nil,hown0,hal⟩
 case round =>
  obtain ⟨k,t,ys,rfl,ht,ht0,hT,hyb,hown,hN⟩:=hrel
  have hob:=hown.lt
  by_cases hlt:0≤t
  ·obtain ⟨j, rfl⟩ := Int.eq_ofNat_of_zero_le hlt
   obtain ⟨off,rfl,hc⟩:=(hr.up hN) (by omega)
   have cx:=hc j (by omega)
   have xb:=hb j
   have hT':=hT.step
   rw [show xs.length - 1 - k=j by omega] at hT'
   generalize xs.getD j 0=x at *
   have j1:(j:Int) < (xs.length:Int):=by omega
   have HT:=hide ht
   clear hc ht
   go_wp2_with (at_builtin;refine wpList_append_own _ rfl _ _ 22 rfl w.heap.size 5 i0 (.int .u8 0) 1 1 Tryz.underlying22 hi hz0 hz1 hz2 rfl (by decide) _ k (ys.map (Value.int .u8)) rfl (hown.alloc _) ⟨wr.heap.size,0,none⟩ 1 1 [.int .u8 x] rfl rfl ?c1 ?c2 ?c3 ?c4 ?c5 ?_)
   case c1 =>
    intro j u hj
    match j,hj with
    | 0,hj=>simp at hj;subst hj;simp [Addr.add]
   case c2=>intro u hu;simp at hu;subst hu;rfl
   case c3=>unfold maxLen;have:=HT.out;omega
   case c4=>have:=HT.out;omega
   case c5=>simp;have:=hN.size;omega
   ·intro v' w2 hown2 hgrow _
    have nA:Below w.heap.size w (wr.alloc (.cells #[.int .u8 x] 5)):=hN.alloc hN.size _
    have N2:Below w.heap.size w w2:=nA.grown hgrow (by simp;have:=hN.size;omega) (fun i hi=>(hob i hi).1)
    have hown3:w2.ownsRow w.heap.size 5 1 v' (k+1) ((ys ++ [x]).map (Value.int .u8)):=by simpa using hown2
    have hb3:=byt_app1 hyb x xb.1 (by omega)
    clear hown hown2 hgrow nA hob
    go_wp2
    go_roundw
    case rel=>exact ⟨k+1,(j:Int) - 1,ys ++ [x],rfl,by have:=HT.out;omega,by omega,hT',hb3,hown3,N2⟩
    case measure=>simp [intOf]
  ·obtain rfl : t = -1 := by omega
   obtain rfl:k=xs.length:=by omega
   have hown':=hown
   rw [← hT.1] at hown'
   obtain ⟨a',c',g',hv,o1,o2,o3,o4⟩:=Own.of_ownsRow hown'
   subst hv
   have L:=hide hT
   clear hown hown' ht hT
   go_wp2
   go_ret
   exact ⟨ys,L.out,hyb,⟨_,_,g',rfl,o1,o2,o3,o4⟩,hN⟩
set_option maxHeartbeats 1000000 in
theorem l2Num_any (w:World) (g:Nat) (a:Option Addr) (c:Nat) (xs:List Int) (hr:Rd w g a .u8 xs) (hb:Byt xs) (hl:xs.length≤1048576) :
  Calls Tryz.prog 26 #[.slice a xs.length c] w fun e w'=>∃ ys,Canon ys (lsum (fun j=>xs.getD j 0) xs.length)∧ys.length≤xs.length∧NewRow w.heap.size w' e .u8 ys∧Below w.heap.size w w':=by
 go_enter Tryz.func26,Tryz.ntmps26
 go_wp2_with fail
 refine (l1Turn_any w g a c xs hr hb hl).mono ?_
 rintro e w1 ⟨ys,T,yb,⟨a1,c1,g1,rfl,o1,p1,p2,p3⟩,n1⟩
 have V:=hide T.val
 have L:=hide T.1
 clear T
 go_wp2_with fail
 refine (l1Trim_any w1 g1 a1 c1 ys o1.rd yb p1 p2 (by have:=L.out;omega)).mono ?_
 rintro e w2 ⟨zs,C,l2,⟨a2,c2,g2,rfl,o2,q1,q2,q3⟩,n2⟩
 go_wp2
 go_ret
 exact ⟨zs,by rw [← V.out];exact C,by have:=L.out;omega,⟨_,_,g2,rfl,o2,q1,q2,Nat.le_trans n1.size q3⟩,nxt n1 n2⟩
def pbytes:List Int:=[127,255,255,255,255,255,255,255,255,255,255,255,255,255,255,255,255,255,255,255,255,255,255,255,255,255,255,255,255,255,255,237]
theorem pbytes_val:bval pbytes=PP:=by decide +kernel
theorem pbytes_len:pbytes.length=32:=rfl
theorem pbytes_byt:Byt pbytes:=by
 intro i
 by_cases h:i < 32
 ·have : ∀ i, i < 32 → 0 ≤ pbytes.getD i 0 ∧ pbytes.getD i 0 < 256 := by decide
  exact this i h
 ·rw [List.getD_eq_getElem?_getD, List.getElem?_eq_none (by rw [pbytes_len]; omega)]
  simp
theorem pbytes_made:((fill (fun _=>255) 32).set 0 127).set 31 237=pbytes:=by decide
set_option maxHeartbeats 1000000 in
theorem l2Prime_any (w:World) :
  Calls Tryz.prog 56 #[] w fun e w'=>e = .returned (.slice (some ⟨w.heap.size,0,none⟩) pbytes.length 32)∧Blk w' w.heap.size .u8 pbytes∧Below w.heap.size w w':=by
 obtain ⟨i0,hi,hz0,hz1,hz2⟩:=info_parts Tryz.info5
 go_enter Tryz.func56,Tryz.ntmps56
 go_wp2_with (at_make;refine wpList_make_full _ rfl _ _ 22 rfl w.heap.size 5 i0 (.int .u8 0) 1 Tryz.underlying22 hi hz0 hz1 .i64 .i64 _ _ 32 rfl rfl rfl rfl (by rw [hz2];omega) (by unfold maxLen;omega) (Nat.le_refl _) ?_;intro w1 hown hgrow)
 have hB0:=Blk.of_made hown
 have hN0:Below w.heap.size w w1:=(Below.refl _ _).grown hgrow (Nat.le_refl _) (by simp)
 clear hown hgrow
 go_loopw [2] (fun i wr=>∃ (k:Nat) (ys:List Int),k≤32∧i = .int .i64 k∧FillTo (fun _=>255) ys 32 k∧Blk wr w.heap.size .u8 ys∧Below w.heap.size w wr) (fun i _=>32 - (intOf i).toNat)
 case atStart=>exact ⟨0,_,by omega,rfl,⟨by simp,fun j hj=>absurd hj (by omega)⟩,hB0,hN0⟩
 case round =>
  clear hB0 hN0
  obtain ⟨k,ys,hk,rfl,hF,hB,hN⟩:=hrel
  by_cases hlt:k < 32
  ·have hst := hF.step hlt
   have hcy:=hB.cell (i:=k) (by rw [hF.1];exact hlt)
   have hfy:=hB.free k
   have k2:(k:Int) < 32:=by omega
   have S:=hB.store k 255
   have Sn:Below w.heap.size w (wr.setCell ⟨w.heap.size,k,none⟩ (.int .u8 255)):=hN.setCell (Nat.le_refl _) _
   clear hB hN hF
   go_wp2
   go_roundw
   case rel=>exact ⟨k+1,_,by omega,by go_num,hst,S,Sn⟩
   case measure=>simp [intOf];omega
  ·obtain rfl : k = 32 := by omega
   have hy:=hF.all
   subst hy
   have c0:wr.cell? ⟨w.heap.size,0,none⟩=some (.int .u8 255):=hB.cell (i:=0) (by rw [fill_len];omega)
   have f0:=hB.free 0
   have S:=hB.store 0 127
   have c1:wr.cell? ⟨w.heap.size,31,none⟩=some (.int .u8 255):=hB.cell (i:=31) (by rw [fill_len];omega)
   have f1:=hB.free 31
   have S2:=S.store 31 237
   rw [pbytes_made] at S2
   have Sn:Below w.heap.size w ((wr.setCell ⟨w.heap.size,0,none⟩ (.int .u8 127)).setCell ⟨w.heap.size,31,none⟩ (.int .u8 237)):=(hN.setCell (Nat.le_refl _) _).setCell (Nat.le_refl _) _
   clear hB hN hF S
   go_wp2
   go_ret
   exact ⟨rfl,S2,Sn⟩
end Go.Proofs.YtnpolopcgmjmnaaGreatDoor
