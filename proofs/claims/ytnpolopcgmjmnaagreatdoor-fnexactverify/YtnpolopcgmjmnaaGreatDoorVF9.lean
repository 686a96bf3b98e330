import Derived.Test.YtnpolopcgmjmnaaGreatDoorVF8
namespace Go.Proofs.YtnpolopcgmjmnaaGreatDoor
set_option maxRecDepth 100000
def c16 (f:Nat→Int):Nat→Int
 | 0=>0
 | k+1=>(c16 f k+f k) / 65536
def l16 (f:Nat→Int) (k:Nat):Int:=(c16 f k+f k) % 65536
def s16 (f:Nat→Int):Nat→Int
 | 0=>0
 | k+1=>s16 f k+f k*65536 ^ k
theorem c16_sum (f:Nat→Int):∀ k,s16 (l16 f) k+c16 f k*65536 ^ k=s16 f k
  | 0=>by simp [s16,c16]
  | k + 1 => by
    have ih:=c16_sum f k
    have h:c16 f k+f k=l16 f k+65536*c16 f (k+1):=by
      rw [l16,c16];omega
    have h2:(c16 f k+f k)*65536 ^ k=(l16 f k+65536*c16 f (k+1))*65536 ^ k:=by rw [h]
    rw [Int.add_mul,Int.add_mul] at h2
    rw [s16,s16,Int.pow_succ]
    have h3:c16 f (k+1)*(65536 ^ k*65536)=65536*c16 f (k+1)*65536 ^ k:=by
      rw [Int.mul_comm (65536 ^ k) 65536,← Int.mul_assoc,Int.mul_comm (c16 f (k+1))]
    rw [h3]
    omega
theorem l16_bd (f:Nat→Int) (k:Nat):0≤l16 f k∧l16 f k < 65536:=by
 unfold l16;omega
theorem c16_bd {f:Nat→Int} {M:Int} (hM:1≤M) (hf:∀ j,-(65535*M)≤f j∧f j≤65535*M):∀ k,-M≤c16 f k∧c16 f k≤M
  | 0=>by simp [c16];omega
  | k + 1 => by
    have ih:=c16_bd hM hf k
    have:=hf k
    rw [c16]
    omega
def L16 (f:Nat→Int):Prop:=∀ j,j < 16→0≤f j∧f j < 65536
abbrev W256:Int:=115792089237316195423570985008687907853269984665640564039457584007913129639936
theorem L16.bd {f:Nat→Int} (h:L16 f):0≤s16 f 16∧s16 f 16 < W256:=by
 have h0:=h 0 (by omega);have h1:=h 1 (by omega);have h2:=h 2 (by omega);have h3:=h 3 (by omega)
 have h4:=h 4 (by omega);have h5:=h 5 (by omega);have h6:=h 6 (by omega);have h7:=h 7 (by omega)
 have h8:=h 8 (by omega);have h9:=h 9 (by omega);have ha:=h 10 (by omega);have hb:=h 11 (by omega)
 have hc:=h 12 (by omega);have hd:=h 13 (by omega);have he:=h 14 (by omega);have hf:=h 15 (by omega)
 simp only [s16]
 show _∧_ < 115792089237316195423570985008687907853269984665640564039457584007913129639936
 omega
def r16 (f:Nat→Int) (j:Nat):Int:=if j=0 then l16 f 0+38*c16 f 16 else l16 f j
theorem r16_val (f:Nat→Int):s16 (r16 f) 16=s16 (l16 f) 16+38*c16 f 16:=by
 simp [s16,r16];omega
theorem r16_sum (f:Nat→Int):∃ c,c=c16 f 16∧s16 (r16 f) 16=s16 f 16 - 115792089237316195423570985008687907853269984665640564039457584007913129639936*c+38*c∧0≤s16 f 16 - 115792089237316195423570985008687907853269984665640564039457584007913129639936*c∧s16 f 16 - 115792089237316195423570985008687907853269984665640564039457584007913129639936*c < 115792089237316195423570985008687907853269984665640564039457584007913129639936:=by
 have h1:=c16_sum f 16
 have h2:=L16.bd (f:=l16 f) (fun j _=>l16_bd f j)
 have h3:=r16_val f
 have e:(65536:Int) ^ 16=115792089237316195423570985008687907853269984665640564039457584007913129639936:=by decide
 rw [e] at h1
 refine ⟨_,rfl,?_⟩
 generalize s16 (l16 f) 16=A at *
 generalize c16 f 16=c at *
 generalize s16 (r16 f) 16=B at *
 generalize s16 f 16=U at *
 have h2':0≤A∧A < 115792089237316195423570985008687907853269984665640564039457584007913129639936:=h2
 omega
def cry (f:Nat→Int):Nat→Int:=r16 (r16 (r16 f))
theorem r16_bd {f:Nat→Int} {M:Int} (hM:1≤M) (hf:∀ j,-(65535*M)≤f j∧f j≤65535*M):∀ j,-(38*M)≤r16 f j∧r16 f j≤65535+38*M:=by
 intro j
 have h1:=c16_bd hM hf 16
 have h2:=l16_bd f j
 have h3:=l16_bd f 0
 unfold r16
 split <;> omega
theorem cry_ok {f:Nat→Int} (hf:∀ j,-1152921504606846976≤f j∧f j≤1152921504606846976):L16 (cry f)∧s16 (cry f) 16 % PP=s16 f 16 % PP:=by
 have b1:=r16_bd (f:=f) (M:=17592454500000) (by omega) (fun j=>by have:=hf j;omega)
 obtain ⟨c1,_,v1,lo1,hi1⟩:=r16_sum f
 obtain ⟨c2,_,v2,lo2,hi2⟩:=r16_sum (r16 f)
 obtain ⟨c3,hc3,v3,lo3,hi3⟩:=r16_sum (r16 (r16 f))
 have hc1 : -17592454500000≤c1∧c1≤17592454500000:=by
  have:=c16_bd (f:=f) (M:=17592454500000) (by omega) (fun j=>by have:=hf j;omega) 16
  omega
 have e3:c3=0:=by
  generalize s16 (r16 f) 16=S1 at *
  generalize s16 (r16 (r16 f)) 16=S2 at *
  generalize s16 f 16=U at *
  have h2:c2=0∨c2=1∨c2 = -1:=by omega
  omega
 refine ⟨?_,?_⟩
 ·intro j _
  have h0:=l16_bd (r16 (r16 f)) j
  unfold cry
  show 0≤r16 (r16 (r16 f)) j∧r16 (r16 (r16 f)) j < 65536
  rw [r16,← hc3,e3]
  split
  ·rename_i e;subst e;omega
  ·exact h0
 ·show s16 (r16 (r16 (r16 f))) 16 % 57896044618658097711785492504343953926634992332820282019728792003956564819949 = s16 f 16 % 57896044618658097711785492504343953926634992332820282019728792003956564819949
  omega
end Go.Proofs.YtnpolopcgmjmnaaGreatDoor
