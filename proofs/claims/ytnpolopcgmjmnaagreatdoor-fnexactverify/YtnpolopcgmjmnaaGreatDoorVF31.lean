import Derived.Test.YtnpolopcgmjmnaaGreatDoorVF30
namespace Go.Proofs.YtnpolopcgmjmnaaGreatDoor
set_option maxRecDepth 100000
def adj (f:Nat→Int) (j:Nat):Int:=if j=0 then f 0+19*(f 15 / 32768) else if j=15 then f 15 % 32768 else f j
def rb (f:Nat→Int):Nat→Int:=l16 (adj f)
theorem adj_val (f:Nat→Int):s16 (adj f) 16=s16 f 16+(f 15 % 32768 - f 15)*65536 ^ 15+19*(f 15 / 32768):=by
 have h:=s16_upd (fun k=>if k=15 then f 15 % 32768 else f k) 0 (f 0+19*(f 15 / 32768)) 16
 rw [s16_upd f 15 (f 15 % 32768) 16] at h
 have e:adj f=fun k=>if k=0 then f 0+19*(f 15 / 32768) else (if k=15 then f 15 % 32768 else f k):=rfl
 rw [e,h]
 simp
 omega
theorem L15.bd {f:Nat→Int} (h:L16 f):0≤s16 f 15∧s16 f 15 < 1766847064778384329583297500742918515827483896875618958121606201292619776:=by
 have h0:=h 0 (by omega);have h1:=h 1 (by omega);have h2:=h 2 (by omega);have h3:=h 3 (by omega)
 have h4:=h 4 (by omega);have h5:=h 5 (by omega);have h6:=h 6 (by omega);have h7:=h 7 (by omega)
 have h8:=h 8 (by omega);have h9:=h 9 (by omega);have ha:=h 10 (by omega);have hb:=h 11 (by omega)
 have hc:=h 12 (by omega);have hd:=h 13 (by omega);have he:=h 14 (by omega)
 simp only [s16]
 omega
theorem rb_ok {f:Nat→Int} (h:L16 f):L16 (rb f)∧s16 (rb f) 16=s16 f 16 % 57896044618658097711785492504343953926634992332820282019728792003956564819968+19*(s16 f 16 / 57896044618658097711785492504343953926634992332820282019728792003956564819968):=by
 refine ⟨fun j _=>l16_bd _ j,?_⟩
 have h1:=c16_sum (adj f) 16
 have h2:=L16.bd (f:=l16 (adj f)) (fun j _=>l16_bd _ j)
 have h3:=adj_val f
 have h4:=L15.bd h
 have h5:=h 15 (by omega)
 have h6:s16 f 16=s16 f 15+f 15*65536 ^ 15:=rfl
 have e:(65536:Int) ^ 16=115792089237316195423570985008687907853269984665640564039457584007913129639936:=by decide
 have e2:(65536:Int) ^ 15=1766847064778384329583297500742918515827483896875618958121606201292619776:=by decide
 rw [e] at h1
 rw [e2] at h3 h6
 show s16 (l16 (adj f)) 16=_
 have h2':0≤s16 (l16 (adj f)) 16∧s16 (l16 (adj f)) 16 < 115792089237316195423570985008687907853269984665640564039457584007913129639936:=h2
 generalize s16 (l16 (adj f)) 16=S at *
 generalize c16 (adj f) 16=c at *
 generalize s16 (adj f) 16=U at *
 generalize s16 f 16=V at *
 generalize s16 f 15=T at *
 generalize f 15=x at *
 clear h2 h e e2
 rcases (show x / 32768=0∨x / 32768=1 by omega) with hx | hx
 ·have hV : V / 57896044618658097711785492504343953926634992332820282019728792003956564819968 = 0 := by omega
  have hc:c=0:=by omega
  omega
 ·have hV : V / 57896044618658097711785492504343953926634992332820282019728792003956564819968 = 1 := by omega
  have hc:c=0:=by omega
  omega
def rb2 (f:Nat→Int):Nat→Nat→Int
 | 0=>f
 | k+1=>rb (rb2 f k)
theorem rb2_ok {f:Nat→Int} (h:L16 f):∀ k,L16 (rb2 f k)
 | 0=>h
 | k+1=>(rb_ok (rb2_ok h k)).1
theorem rb_two {f:Nat→Int} (h:L16 f):0≤s16 (rb2 f 2) 16∧s16 (rb2 f 2) 16 < 57896044618658097711785492504343953926634992332820282019728792003956564819968∧s16 (rb2 f 2) 16 % PP=s16 f 16 % PP:=by
 have h0:=L16.bd h
 have h1:=rb_ok h
 have h2:=rb_ok h1.1
 have b2:=L16.bd h2.1
 show 0≤s16 (rb (rb f)) 16∧s16 (rb (rb f)) 16 < _∧s16 (rb (rb f)) 16 % 57896044618658097711785492504343953926634992332820282019728792003956564819949=s16 f 16 % 57896044618658097711785492504343953926634992332820282019728792003956564819949
 have v1:=h1.2
 have v2:=h2.2
 have h0':0≤s16 f 16∧s16 f 16 < 115792089237316195423570985008687907853269984665640564039457584007913129639936:=h0
 generalize s16 (rb (rb f)) 16=C at *
 generalize s16 (rb f) 16=B at *
 generalize s16 f 16=A at *
 clear h0 h1 h2 b2
 omega
def tb16 (f:Nat→Int) (i:Nat):Int:=if i % 2=0 then f (i / 2) % 256 else f (i / 2) / 256
theorem tb16_val (f:Nat→Int) (n:Nat):s16 f n=lsum (tb16 f) (2*n):=by
 rw [← of16_val]
 refine s16_congr n (fun j _=>?_)
 unfold of16 tb16
 rw [if_pos (by omega),if_neg (by omega),show 2*j / 2=j by omega,show (2*j+1) / 2=j by omega]
 omega
theorem lsum_congr {a b:Nat→Int}:∀ n,(∀ i,i < n→a i=b i)→lsum a n=lsum b n
 | 0,_=>rfl
 | n+1,h=>by rw [lsum,lsum,lsum_congr n (fun i hi=>h i (by omega)),h n (by omega)]
theorem tb16_bd {f:Nat→Int} (h:L16 f) {i:Nat} (hi:i < 32):0≤tb16 f i∧tb16 f i < 256:=by
 have:=h (i / 2) (by omega)
 unfold tb16
 split <;> omega
theorem tb16_byt {f:Nat→Int} (h:L16 f):Byt (fill (tb16 f) 32):=by
 intro i
 by_cases hi:i < 32
 ·rw [fill_get _ _ _ hi];exact tb16_bd h hi
 ·rw [List.getD_eq_getElem?_getD,List.getElem?_eq_none (by rw [fill_len];omega)];simp
theorem TurnTo.dig {xs ys:List Int} (h:TurnTo xs ys xs.length) {i:Nat} (hi:i < xs.length):Go.Proofs.YtnpolopcgmjmnaaGreatDoor.dig ys i=xs.getD i 0:=by
 unfold Go.Proofs.YtnpolopcgmjmnaaGreatDoor.dig
 rw [if_pos (by rw [h.1];exact hi),h.2 _ (by rw [h.1];omega),h.1]
 congr 1
 omega
theorem tb16_turn {f:Nat→Int} {ys:List Int} (hT:TurnTo (fill (tb16 f) 32) ys 32) (hb:Byt ys):bval ys=s16 f 16∧fill (tb16 f) 32=fill (byt (s16 f 16)) 32:=by
 have hT':TurnTo (fill (tb16 f) 32) ys (fill (tb16 f) 32).length:=by rw [fill_len];exact hT
 have hv:bval ys=s16 f 16:=by
  rw [hT'.val,fill_len,tb16_val]
  exact lsum_congr 32 (fun i hi=>fill_get _ _ _ hi)
 refine ⟨hv,fill_congr (fun i hi=>?_)⟩
 have:=hT'.dig (i:=i) (by rw [fill_len];exact hi)
 rw [fill_get _ _ _ hi] at this
 rw [← this,dig_of hb,hv]
end Go.Proofs.YtnpolopcgmjmnaaGreatDoor
