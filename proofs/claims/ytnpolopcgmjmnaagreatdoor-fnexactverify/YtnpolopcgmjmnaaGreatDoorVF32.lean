import Derived.Test.YtnpolopcgmjmnaaGreatDoorVF31
namespace Go.Proofs.YtnpolopcgmjmnaaGreatDoor
set_option maxRecDepth 100000
theorem div_join {h B l:Int} (l0:0≤l) (l1:l < B):(l+h*B) / B=h:=by
 rw [Int.add_mul_ediv_right _ _ (by omega),Int.ediv_eq_zero_of_lt l0 l1]
 omega
theorem bit_of {A d h l:Int} {i n k r:Nat} (hn:i=n*k+r) (hr:r < n) (hA:A=l+(d+h*2 ^ n)*2 ^ (n*k)) (l0:0≤l) (l1:l < 2 ^ (n*k)):A / 2 ^ i % 2=d / 2 ^ r % 2:=by
 rw [hn,Int.pow_add,← Int.ediv_ediv_of_nonneg (show (0:Int)≤2 ^ (n*k) by have:=p2pos (n*k);omega),hA,div_join l0 l1]
 obtain ⟨s,hs⟩:∃ s,n=r+(s+1):=⟨n - r - 1,by omega⟩
 have e:h*2 ^ n=2*(h*2 ^ s)*2 ^ r:=by
  rw [hs,Int.pow_add,Int.pow_succ]
  simp only [Int.mul_comm,Int.mul_left_comm]
 rw [e,Int.add_mul_ediv_right _ _ (by have:=p2pos r;omega)]
 omega
theorem bbit {xs:List Int} (hx:Byt xs) (i:Nat):bval xs / 2 ^ i % 2=dig xs (i / 8) / 2 ^ (i % 8) % 2:=by
 have e:=bval_lo xs (i / 8)
 have b:=lo_bd hx (i / 8)
 rw [hi_step xs (i / 8),Int.add_comm,Int.add_comm (hi xs (i / 8+1)*256)] at e
 rw [p256_2] at e b
 exact bit_of (n:=8) (k:=i / 8) (h:=hi xs (i / 8+1)) (by omega) (by omega) e b.1 b.2
theorem nbit {A b:Int} {E i:Nat} (hE:(E:Int)=A) (h:A / 2 ^ i % 2=b):((E / 2 ^ i % 2:Nat):Int)=b:=by
 rw [← h,← hE]
 simp
theorem half_of (E i:Nat):E / 2 ^ i=2*(E / 2 ^ (i+1))+E / 2 ^ i % 2:=by
 rw [Nat.pow_succ,← Nat.div_div_eq_div_mul]
 omega
theorem pow_sq {a m:Int} {e:Nat}:(a ^ e % m)*(a ^ e % m) % m=a ^ (2*e) % m:=by
 rw [← Int.mul_emod,← Int.pow_add,show e+e=2*e by omega]
end Go.Proofs.YtnpolopcgmjmnaaGreatDoor
