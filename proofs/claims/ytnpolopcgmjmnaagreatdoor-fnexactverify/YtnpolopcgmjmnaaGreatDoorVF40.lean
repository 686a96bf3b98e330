import Derived.Test.YtnpolopcgmjmnaaGreatDoorVF39
namespace Go.Proofs.YtnpolopcgmjmnaaGreatDoor
set_option maxRecDepth 100000
def eQ:Nat:=14474011154664524427946373126085988481658748083205070504932198000989141204987
def eH:Nat:=28948022309329048855892746252171976963317496166410141009864396001978282409974
theorem PP_nat:(PP:Int)=((P25519:Nat):Int):=rfl
theorem pwm (x:Int):∀ e:Nat,(x % PP) ^ e % PP=x ^ e % PP
  | 0=>by rw [Int.pow_zero,Int.pow_zero]
  | e + 1 => by
    rw [Int.pow_succ,Int.pow_succ,Int.mul_emod,pwm x e,Int.emod_emod_of_dvd _ (Int.dvd_refl _),← Int.mul_emod]
theorem PP_mul {x y:Int} (h:x*y % PP=0):x % PP=0∨y % PP=0:=by
 have hd:(PP:Int) ∣ x*y:=Int.dvd_of_emod_eq_zero h
 have h2:P25519 ∣ x.natAbs*y.natAbs:=by
  have:=Int.natAbs_dvd_natAbs.mpr hd
  rwa [Int.natAbs_mul] at this
 rcases prm_P.mul h2 with k | k
 ·exact .inl (Int.emod_eq_zero_of_dvd (Int.natAbs_dvd_natAbs.mp (by exact k)))
 ·exact .inr (Int.emod_eq_zero_of_dvd (Int.natAbs_dvd_natAbs.mp (by exact k)))
theorem PP_fermat {x:Int} (h0:0 < x) (h1:x < PP):x ^ (2*eH) % PP=1:=by
 obtain ⟨n,rfl⟩:=Int.eq_ofNat_of_zero_le (show 0≤x by omega)
 have hn:¬ P25519 ∣ n:=fun hd=>by
  have h:=Nat.le_of_dvd (by omega) hd
  have:=PP_nat
  omega
 have f:=prm_P.fermat hn
 have e:P25519 - 1=2*eH:=by decide +kernel
 rw [e] at f
 rw [PP_nat,← Int.natCast_pow,← Int.natCast_emod,f]
 rfl
theorem one_roots {y:Int} (h0:0≤y) (h1:y < PP) (h:y*y % PP=1):y=1∨y=PP - 1:=by
 have e:(y - 1)*(y+1)=y*y - 1:=by grind
 have z:(y - 1)*(y+1) % PP=0:=by
  rw [e,Int.sub_emod,h]
  decide
 have hP:(PP:Int)=57896044618658097711785492504343953926634992332820282019728792003956564819949:=rfl
 rcases PP_mul z with k | k
 ·left
  clear h z e
  rw [hP] at h1 k
  omega
 ·right
  clear h z e
  rw [hP] at h1 k ⊢
  omega
theorem rt_sq (A:Int):rtR A*rtR A % PP=(A ^ eQ % PP)*A % PP:=by
 unfold rtR
 rw [pow_sq,show 2*eRt=eQ+1 by decide +kernel,Int.pow_succ,Int.mul_emod,Int.mul_emod (A ^ eQ % PP) A,Int.emod_emod]
theorem neg_neg_P {A:Int} (h0:0≤A) (h1:A < PP):(0 - (0 - A) % PP) % PP=A:=by
 have hP:(PP:Int)=57896044618658097711785492504343953926634992332820282019728792003956564819949:=rfl
 rw [hP] at h1 ⊢
 omega
theorem neg_mul_P (A:Int):(PP - 1)*A=PP*A+(0 - A):=by
 generalize PP=p
 rw [Int.sub_mul,Int.one_mul]
 omega
theorem has_of {A:Int} (h0:0 < A) (h1:A < PP) (h:A ^ eH % PP=1):r1I A*r1I A % PP=A:=by
 have q:A ^ eQ % PP=1∨A ^ eQ % PP=PP - 1:=by
  refine one_roots (Int.emod_nonneg _ (by decide)) (Int.emod_lt_of_pos _ (by decide)) ?_
  rw [pow_sq,show 2*eQ=eH by decide +kernel]
  exact h
 have s:=rt_sq A
 rcases q with q | q
 ·rw [q, Int.one_mul, Int.emod_eq_of_lt (Int.le_of_lt h0) h1] at s
  refine (same_root (Int.le_of_lt h0) h1).1.mpr ?_
  rw [show r1S A=rtR A by rw [r1S,if_pos s]]
  exact s
 ·rw [q, neg_mul_P, Int.mul_add_emod_self_left] at s
  rw [show r1I A=rtR A*iM % PP by rw [r1I,if_pos s],turn_sq,neg_modP _ _ s]
  exact neg_neg_P (Int.le_of_lt h0) h1
theorem pow_of_sq {R:Int} (h0:0 < R) (h1:R < PP):(R*R % PP) ^ eH % PP=1:=by
 rw [pwm,show R*R=R ^ 2 by rw [Int.pow_succ,Int.pow_succ,Int.pow_zero,Int.one_mul],← Int.pow_mul]
 exact PP_fermat h0 h1
theorem sq_has {x : Int} (h0 : 0 ≤ x) (h1 : x < PP) : r1I (x * x % PP) * r1I (x * x % PP) % PP = x * x % PP := by
 by_cases hx:x=0
 ·subst hx
  rw [Int.mul_zero,show (0:Int) % PP=0 by decide]
  have:r1I 0=0:=by rw [r1I,rtR_zero];simp
  rw [this]
  rfl
 ·have s0 : 0 ≤ x * x % PP := Int.emod_nonneg _ (by decide)
  have s1:x*x % PP < PP:=Int.emod_lt_of_pos _ (by decide)
  have s2:¬ x*x % PP=0:=fun e=>by
   rcases PP_mul e with k | k
   all_goals
    rw [Int.emod_eq_of_lt h0 h1] at k
    exact hx k
  have x0:0 < x:=by omega
  have y0:0 < x*x % PP:=by omega
  exact has_of y0 s1 (pow_of_sq x0 h1)
theorem dbl (A:Int) (e:Nat) (h:(2:Int) ^ e % PP=PP - 1):((A+A) % PP) ^ e % PP=(PP - 1)*(A ^ e % PP) % PP:=by
 rw [pwm,← Int.two_mul,Int.mul_pow,Int.mul_emod,h]
theorem neg_P {r:Int} (h0:0 < r) (h1:r < PP):(0 - r) % PP=PP - r:=by
 have e:(0 - r)=(PP - r)+PP*(-1):=by generalize PP=p;omega
 rw [e,Int.add_mul_emod_self_left,Int.emod_eq_of_lt]
 ·generalize PP=p at *;omega
 ·generalize PP=p at *;omega
theorem fin2_bd {r:Int} (h0:0≤r) (h1:r < PP):0≤fin2 r∧fin2 r < PP∧fin2 r % 2=0:=by
 unfold fin2
 split
 ·exact ⟨h0,h1,by assumption⟩
 ·have hp : PP % 2 = 1 := by decide
  rw [neg_P (by omega) h1]
  generalize PP=p at *
  omega
theorem fin2_sq (r:Int):fin2 r*fin2 r % PP=r*r % PP:=by
 unfold fin2
 split
 ·rfl
 ·rw [← Int.mul_emod]
  congr 1
  grind
end Go.Proofs.YtnpolopcgmjmnaaGreatDoor
namespace Go.Proofs.YtnpolopcgmjmnaaGreatDoor
set_option maxRecDepth 100000
def kbit (K:Int) (n:Nat):Bool:=decide (K / 2 ^ n % 2=1)
theorem PP_dvd {x:Int}:PP ∣ x↔x % PP=0:=⟨Int.emod_eq_zero_of_dvd,Int.dvd_of_emod_eq_zero⟩
theorem pri_PP:Pri PP:=by
 refine ⟨fun {x y} h=>?_,by decide,by decide⟩
 have h':P25519 ∣ x.natAbs*y.natAbs:=by
  rw [← Int.natAbs_mul]
  exact Int.ofNat_dvd_left.1 h
 rcases prm_P.mul h' with k | k
 ·exact Or.inl (Int.ofNat_dvd_left.2 k)
 ·exact Or.inr (Int.ofNat_dvd_left.2 k)
theorem nz_pow (hP:Pri PP) {x:Int} (h:¬ PP ∣ x):∀ n:Nat,¬ PP ∣ x ^ n
 | 0=>by rw [Int.pow_zero];exact hP.one
 | n+1=>by rw [Int.pow_succ];exact nz_mul hP (nz_pow hP h n) h
theorem fer {l:Int} (h:¬ PP ∣ l):l ^ (eInv+1) % PP=1:=by
 have h1:0 < l % PP:=by
  have:=Int.emod_nonneg l (show PP≠0 by decide)
  rcases Int.lt_or_eq_of_le this with k | k
  ·exact k
  ·exact absurd (PP_dvd.2 k.symm) h
 have h2:=Int.emod_lt_of_pos l (show (0:Int) < PP by decide)
 rw [← pwm l]
 obtain ⟨n,hn⟩:=Int.eq_ofNat_of_zero_le (show 0≤l % PP by omega)
 rw [hn] at h1 h2 ⊢
 have hd:¬ P25519 ∣ n:=fun hd=>by
  have h:=Nat.le_of_dvd (by omega) hd
  have:((P25519:Nat):Int)=PP:=rfl
  omega
 have f:=prm_P.fermat hd
 rw [← eInv_P] at f
 rw [PP_nat,← Int.natCast_pow,← Int.natCast_emod,f]
 rfl
end Go.Proofs.YtnpolopcgmjmnaaGreatDoor
namespace Go.Proofs.YtnpolopcgmjmnaaGreatDoor
set_option maxRecDepth 100000
section
variable {P a d b s k : Int} {inv : Int → Int}
def Rep (P s:Int) (w:Int × Int) (y:Int):Prop:=P ∣ w.1*(1 - y) - s*w.2*(1+y)∧¬ (P ∣ w.1∧P ∣ w.2)
def ldbl (k:Int) (w:Int × Int):Int × Int :=
 ((w.1+w.2)*(w.1+w.2)*((w.1 - w.2)*(w.1 - w.2)),((w.1+w.2)*(w.1+w.2) - (w.1 - w.2)*(w.1 - w.2))*((w.1+w.2)*(w.1+w.2)+k*((w.1+w.2)*(w.1+w.2) - (w.1 - w.2)*(w.1 - w.2))))
def lsum2 (p q:Int × Int) (x:Int):Int × Int :=
 (((q.1 - q.2)*(p.1+p.2)+(q.1+q.2)*(p.1 - p.2))*((q.1 - q.2)*(p.1+p.2)+(q.1+q.2)*(p.1 - p.2)),x*(((q.1 - q.2)*(p.1+p.2) - (q.1+q.2)*(p.1 - p.2))*((q.1 - q.2)*(p.1+p.2) - (q.1+q.2)*(p.1 - p.2))))
theorem Rep.st (hP:Pri P) (hs:s=1∨s = -1) {w:Int × Int} {y:Int} (h:Rep P s w y):P ∣ (w.1 - s*w.2) - y*(w.1+s*w.2)∧¬ P ∣ w.1+s*w.2:=by
 have t:P ∣ (w.1 - s*w.2) - y*(w.1+s*w.2):=dv2 h.1 h.1 (c1:=1) (c2:=0) (by grind)
 refine ⟨t,fun hS=>h.2 ?_⟩
 have hT:P ∣ w.1 - s*w.2:=dv2 t hS (c1:=1) (c2:=y) (by grind)
 have u:P ∣ 2*w.1:=dv2 hS hT (c1:=1) (c2:=1) (by grind)
 have v:P ∣ 2*w.2:=dv2 hS hT (c1:=s) (c2:=-s) (by rcases hs with rfl | rfl <;> grind)
 exact ⟨(hP.mul u).resolve_left hP.two,(hP.mul v).resolve_left hP.two⟩
structure Mon (P a d b s k:Int):Prop where
 s1:s=1∨s = -1
 bd:P ∣ b*(a - d) - d
 kb:2*k+1=s*(2*b+1)
 ad:¬ P ∣ a - d
 a0:¬ P ∣ a
theorem Rep.dbl (hP : Pri P) (hC : Cpl P a d) (M : Mon P a d b s k) {w : Int × Int} {x y x2 y2 : Int} (h : Rep P s w y) (ho : On P a d x y) (hm : Sm P a d x y x y x2 y2) : Rep P s (ldbl k w) y2 := by
 obtain ⟨t,hS⟩:=h.st hP M.s1
 have E1:P ∣ y ^ 2 - (1+b*(1 - y ^ 2))*(1 - a*x ^ 2):=cancel hP M.ad (dv2 ho M.bd (c1:=a) (c2:=-((1 - y ^ 2)*(1 - a*x ^ 2))) (by grind))
 have hq:=hC.q ho ho
 have my:=hm.y
 obtain ⟨U,V⟩:=w
 simp only at t hS
 have ST:∃ S T,P ∣ T - y*S∧¬ P ∣ S∧(ldbl k (U,V)).1=S ^ 2*T ^ 2∧(ldbl k (U,V)).2=s*(S ^ 2 - T ^ 2)*(S ^ 2+b*(S ^ 2 - T ^ 2)):=by
  refine ⟨U+s*V,U - s*V,t,hS,?_,?_⟩
  ·unfold ldbl
   rcases M.s1 with e | e <;> subst e <;> grind
  ·unfold ldbl
   have kb:=M.kb
   rcases M.s1 with e | e
   ·subst e
    obtain rfl:k=b:=by omega
    grind
   ·subst e
    obtain rfl:k = -1 - b:=by omega
    grind
 obtain ⟨S,T,hT,hS,e1,e2⟩:=ST
 have tau:P ∣ T ^ 2 - y ^ 2*S ^ 2:=dv2 hT hT (c1:=T+y*S) (c2:=0) (by grind)
 have ss:s*s=1:=by rcases M.s1 with e | e <;> subst e <;> decide
 unfold Rep
 rw [e1,e2]
 constructor
 ·have g1 : P ∣ S ^ 2 * T ^ 2 * (1 - y ^ 2) - (S ^ 2 - T ^ 2) * (S ^ 2 + b * (S ^ 2 - T ^ 2)) * (1 - a * x ^ 2) :=
   dv2 E1 tau (c1:=S ^ 4*(1 - y ^ 2)) (c2:=S ^ 2*(1 - y ^ 2)+(1 - a*x ^ 2)*(S ^ 2*(1+b*(1 - y ^ 2))+b*(S ^ 2*(1 - y ^ 2) - (T ^ 2 - y ^ 2*S ^ 2)))) (by grind)
  refine cancel hP hq (dv3 g1 ho my (c1:=2) (c2:=S ^ 2*T ^ 2 - (S ^ 2 - T ^ 2)*(S ^ 2+b*(S ^ 2 - T ^ 2))) (c3:=-(S ^ 2*T ^ 2+(S ^ 2 - T ^ 2)*(S ^ 2+b*(S ^ 2 - T ^ 2)))) ?_)
  grind
 ·rintro ⟨z1, z2⟩
  have zT:P ∣ T:=by
   have h1:P ∣ (S*T)*(S*T):=dv2 z1 z1 (c1:=1) (c2:=0) (by grind)
   rcases hP.mul h1 with h | h <;> exact (hP.mul h).resolve_left hS
  have z3:P ∣ (1+b)*(S ^ 2*S ^ 2):=dv2 z2 zT (c1:=s) (c2:=T*(S ^ 2+b*(S ^ 2 - T ^ 2))+S ^ 2*b*T) (by grind)
  have n2:¬ P ∣ S ^ 2*S ^ 2:=by
   have n1:¬ P ∣ S ^ 2:=by rw [show S ^ 2=S*S by grind];exact nz_mul hP hS hS
   exact nz_mul hP n1 n1
  have z4:=cancel hP n2 z3
  exact M.a0 (dv2 z4 M.bd (c1:=a - d) (c2:=-1) (by grind))
theorem Rep.sum (hP:Pri P) (hC:Cpl P a d) (hs:s=1∨s = -1) {p q:Int × Int} {x x1 y1 x2 y2 xs ys xd yd:Int} (h1:Rep P s p y1) (h2:Rep P s q y2) (o1:On P a d x1 y1) (o2:On P a d x2 y2)
  (hm:Sm P a d x1 y1 x2 y2 xs ys) (hd:Sm P a d x1 y1 (-x2) y2 xd yd) (hx:P ∣ x*(1 - yd) - s*(1+yd)) (hn:¬ P ∣ 1 - yd) (h0:¬ P ∣ x):Rep P s (lsum2 p q x) ys:=by
 obtain ⟨t1,n1⟩:=h1.st hP hs
 obtain ⟨t2,n2⟩:=h2.st hP hs
 have hp:=hC.p o1 o2
 have hq:=hC.q o1 o2
 have D:=dv2 o1 o2 (ed_diff x1 y1 x2 y2 a d)
 have dy:P ∣ yd*(1+d*x1*x2*y1*y2) - (y1*y2+a*x1*x2):=dv2 hd.y hd.y (c1:=1) (c2:=0) (by grind)
 have sy:=hm.y
 have ss:s*s=1:=by rcases hs with e | e <;> subst e <;> decide
 have K:P ∣ (1+ys)*(1+yd)*(y1 - y2) ^ 2 - (1 - ys)*(1 - yd)*(y1+y2) ^ 2:=by
  have g1:P ∣ ((1 - d*x1*x2*y1*y2)*(1+ys))*((1+d*x1*x2*y1*y2)*(1+yd))*(y1 - y2) ^ 2 - ((1 - d*x1*x2*y1*y2)*(1 - ys))*((1+d*x1*x2*y1*y2)*(1 - yd))*(y1+y2) ^ 2:=by
   generalize 1 - d*x1*x2*y1*y2=Q at *
   generalize 1+d*x1*x2*y1*y2=R at *
   generalize y1*y2 - a*x1*x2=X at *
   generalize y1*y2+a*x1*x2=Y at *
   refine dv3 D sy dy (c1:=1) (c2:=R*(1+yd)*(y1 - y2) ^ 2+R*(1 - yd)*(y1+y2) ^ 2) (c3:=(Q+X)*(y1 - y2) ^ 2+(Q - X)*(y1+y2) ^ 2) ?_
   grind
  refine cancel hP (nz_mul hP hq hp) (dv2 g1 g1 (c1:=1) (c2:=0) ?_)
  grind
 have M:P ∣ x*(1+ys)*(y1 - y2) ^ 2 - s*(1 - ys)*(y1+y2) ^ 2:=by
  refine cancel hP hn (dv2 K hx (c1:=s) (c2:=(1+ys)*(y1 - y2) ^ 2) ?_)
  grind
 obtain ⟨U1,V1⟩:=p
 obtain ⟨U2,V2⟩:=q
 simp only at t1 n1 t2 n2
 have ST:∃ S1 T1 S2 T2,P ∣ T1 - y1*S1∧¬ P ∣ S1∧P ∣ T2 - y2*S2∧¬ P ∣ S2∧(lsum2 (U1,V1) (U2,V2) x).1=(S1*T2+S2*T1) ^ 2∧(lsum2 (U1,V1) (U2,V2) x).2=x*(S1*T2 - S2*T1) ^ 2:=by
  refine ⟨U1+s*V1,U1 - s*V1,U2+s*V2,U2 - s*V2,t1,n1,t2,n2,?_,?_⟩
  ·unfold lsum2
   rcases hs with e | e <;> subst e <;> grind
  ·unfold lsum2
   rcases hs with e | e <;> subst e <;> grind
 obtain ⟨S1,T1,S2,T2,k1,m1,k2,m2,e1,e2⟩:=ST
 have f1:P ∣ (S1*T2+S2*T1) - S1*S2*(y1+y2):=dv2 k1 k2 (c1:=S2) (c2:=S1) (by grind)
 have f2:P ∣ (S1*T2 - S2*T1) - S1*S2*(y2 - y1):=dv2 k1 k2 (c1:=-S2) (c2:=S1) (by grind)
 unfold Rep
 rw [e1,e2]
 constructor
 ·refine dv3 M f1 f2 (c1 := -(s * (S1 * S2) ^ 2)) (c2 := (1 - ys) * (S1 * T2 + S2 * T1 + S1 * S2 * (y1 + y2))) (c3 := -(s * x * (1 + ys) * (S1 * T2 - S2 * T1 + S1 * S2 * (y2 - y1)))) ?_
  grind
 ·rintro ⟨z1, z2⟩
  have sq:∀ z:Int,P ∣ z ^ 2→P ∣ z:=fun z hz=>by
   rw [show z ^ 2=z*z by grind] at hz
   exact (hP.mul hz).elim id id
  have z1':=sq _ z1
  have z2':=sq _ ((hP.mul z2).resolve_left h0)
  have y1z:P ∣ y1:=by
   have g:P ∣ y1*(2*(S1*S2)):=dv3 z1' z2' k1 (c1:=1) (c2:=-1) (c3:=-(2*S2)) (by grind)
   exact cancel hP (nz_mul hP hP.two (nz_mul hP m1 m2)) g
  have y2z:P ∣ y2:=by
   have g:P ∣ y2*(2*(S1*S2)):=dv3 z1' z2' k2 (c1:=1) (c2:=1) (c3:=-(2*S1)) (by grind)
   exact cancel hP (nz_mul hP hP.two (nz_mul hP m1 m2)) g
  have a1:P ∣ a*x1 ^ 2 - 1:=dv2 o1 y1z (c1:=1) (c2:=-(y1 - d*x1 ^ 2*y1)) (by grind)
  have a2:P ∣ a*x2 ^ 2 - 1:=dv2 o2 y2z (c1:=1) (c2:=-(y2 - d*x2 ^ 2*y2)) (by grind)
  have ydv:P ∣ yd - a*x1*x2:=dv2 dy y1z (c1:=1) (c2:=y2 - yd*d*x1*x2*y2) (by grind)
  have yd1:P ∣ (1 - yd)*(1+yd):=dv3 ydv a1 a2 (c1:=-(yd+a*x1*x2)) (c2:=-(a*x2 ^ 2)) (c3:=-1) (by grind)
  have yd2:P ∣ 1+yd:=(hP.mul yd1).resolve_left hn
  have yx:P ∣ x*(1 - yd):=dv2 hx yd2 (c1:=1) (c2:=s) (by grind)
  rcases hP.mul yx with h | h
  ·exact h0 h
  ·exact hn h
end
end Go.Proofs.YtnpolopcgmjmnaaGreatDoor
namespace Go.Proofs.YtnpolopcgmjmnaaGreatDoor
set_option maxRecDepth 100000
abbrev d0:Int:=37095705934669439343138083508754565189542113879843219016388785533085940283555
abbrev i0:Int:=19681161376707505956807079304988542015446066515923890162744021073123829784752
abbrev r0:Int:=55487632915927625549282413919184614932259505768049324239291840100650878933168
theorem eI_H:eInv+1=2*eH:=by decide +kernel
theorem fer2 {l:Int} (h:¬ PP ∣ l):l ^ (2*eH) % PP=1:=by rw [← eI_H];exact fer h
def einv (c:Int):Int:=c ^ eInv
theorem einv_ok:∀ c,¬ PP ∣ c→PP ∣ einv c*c - 1:=fun c h=>by
 have f:=fer h
 unfold einv
 rw [← Int.pow_succ]
 refine PP_dvd.2 ?_
 rw [Int.sub_emod,f]
 rfl
theorem cong_dvd {x y:Int} (h:PP ∣ x - y):x % PP=y % PP:=Int.emod_eq_emod_iff_emod_sub_eq_zero.2 (PP_dvd.1 h)
theorem dvd_cong {x y:Int} (h:x % PP=y % PP):PP ∣ x - y:=PP_dvd.2 (Int.emod_eq_emod_iff_emod_sub_eq_zero.1 h)
theorem nsq_of {d:Int} (h:d ^ eH % PP=PP - 1):NSq PP d:=by
 intro r t hrt
 by_cases ht:PP ∣ t
 ·exact ht
 exfalso
 have e:=pow_mod (cong_dvd hrt) eH
 have et:(d*t ^ 2) ^ eH % PP=PP - 1:=by
  rw [Int.mul_pow,← Int.pow_mul,Int.mul_emod,h,fer2 ht]
  decide
 rw [et] at e
 by_cases hr:PP ∣ r
 ·have z : PP ∣ r ^ 2 := by rw [Int.pow_succ]; exact Int.dvd_mul_of_dvd_right hr
  have z2:(r ^ 2) ^ eH % PP=0:=by
   rw [show eH=eH - 1+1 from rfl,Int.pow_succ]
   exact PP_dvd.1 (Int.dvd_mul_of_dvd_right z)
  rw [z2] at e
  exact absurd e (by decide)
 ·rw [← Int.pow_mul, fer2 hr] at e
  exact absurd e (by decide)
theorem i0_sq:PP ∣ i0 ^ 2 - (-1):=by decide +kernel
theorem i0_nz:¬ PP ∣ i0:=by decide +kernel
theorem d0_half:d0 ^ eH % PP=PP - 1:=by
 have h:pm P25519 255 37095705934669439343138083508754565189542113879843219016388785533085940283555 eH=P25519 - 1:=by decide +kernel
 rw [pm_eq _ _ _ _ (by decide +kernel)] at h
 have h':(((37095705934669439343138083508754565189542113879843219016388785533085940283555:Nat) ^ eH % P25519:Nat):Int)=((P25519 - 1:Nat):Int):=by rw [h]
 rw [Int.natCast_emod,Int.natCast_pow] at h'
 rw [PP_nat]
 exact h'
theorem nsqd:NSq PP d0:=nsq_of d0_half
theorem crv1:Crv PP (-1) d0 einv:=⟨pri_PP,cpl_of pri_PP i0_sq nsqd,einv_ok⟩
end Go.Proofs.YtnpolopcgmjmnaaGreatDoor
namespace Go.Proofs.YtnpolopcgmjmnaaGreatDoor
set_option maxRecDepth 100000
section
variable {P d i x D X y v : Int}
end
end Go.Proofs.YtnpolopcgmjmnaaGreatDoor
namespace Go.Proofs.YtnpolopcgmjmnaaGreatDoor
set_option maxRecDepth 100000
section
variable {P a d b s : Int} {inv : Int → Int}
theorem Rep.cg {w:Int × Int} {y y':Int} (h:Rep P s w y) (e:P ∣ y - y'):Rep P s w y' :=
 ⟨dv2 h.1 e (c1:=1) (c2:=w.1+s*w.2) (by grind),h.2⟩
theorem Sm.res {x1 y1 x2 y2 x3 y3 x4 y4:Int} (h:Sm P a d x1 y1 x2 y2 x3 y3) (hx:P ∣ x3 - x4) (hy:P ∣ y3 - y4):Sm P a d x1 y1 x2 y2 x4 y4 :=
 ⟨dv2 h.x hx (c1:=1) (c2:=-(1+d*x1*x2*y1*y2)) (by grind),dv2 h.y hy (c1:=1) (c2:=-(1 - d*x1*x2*y1*y2)) (by grind)⟩
def eneg (p:Int × Int):Int × Int:=(-p.1,p.2)
theorem eadd_negs (p q:Int × Int):eadd a d inv (eneg p) (eneg q)=eneg (eadd a d inv p q):=by
 unfold eadd eneg
 have e1:1+d * -p.1 * -q.1*p.2*q.2=1+d*p.1*q.1*p.2*q.2:=by grind
 have e2:1 - d * -p.1 * -q.1*p.2*q.2=1 - d*p.1*q.1*p.2*q.2:=by grind
 simp only [e1,e2]
 congr 1
 ·grind
 ·grind
theorem step_back (H:Crv P a d inv) {A p:Int × Int} (hA:OnP P a d A) (hp:OnP P a d p):Pe P (eadd a d inv A (eneg (eadd a d inv A p))) (eneg p):=by
 rw [← eadd_negs]
 have nA:OnP P a d (eneg A):=neg_on hA
 have np:OnP P a d (eneg p):=neg_on hp
 have e1:=(eadd_assoc H hA nA np).symm
 have e2:=eadd_cg H (eadd_on H hA nA) np (eadd_neg H hA) (Pe.refl (eneg p))
 have e3:=eadd_comm H (p:=(0,1)) (q:=eneg p) zero_on np
 exact e1.trans (e2.trans (e3.trans (eadd_zero H np)))
end
structure Up (a d s:Int) (p:Int × Int) (n:Nat) (t:Two4):Prop where
 l:Rep PP s (t.a,t.b) (emul a d einv n p).2
 r:Rep PP s (t.c,t.d) (emul a d einv (n+1) p).2
section
variable {a d b s x : Int} {p : Int × Int}
theorem Up.zero (H:Crv PP a d einv) (hp:OnP PP a d p) (hr:Rep PP s (x,1) p.2):Up a d s p 0 ⟨1,0,x,1⟩:=by
 refine ⟨⟨⟨0,?_⟩,fun h=>pri_PP.one h.1⟩,?_⟩
 ·show 1 * (1 - 1) - s * 0 * (1 + 1) = PP * 0
  grind
 ·have e : Pe PP (eadd a d einv (0, 1) p) p := (eadd_comm H zero_on hp).trans (eadd_zero H hp)
  exact hr.cg (e.symm.2)
theorem Up.step (H : Crv PP a d einv) (M : Mon PP a d b s 121665) (hp : OnP PP a d p) (hr : Rep PP s (x, 1) p.2) (hx : ¬ PP ∣ x) {n : Nat} {t : Two4} (h : Up a d s p n t) (bit : Bool) : Up a d s p (2 * n + bit.toNat) (lrnd x bit t) := by
 have hA:=emul_on H hp n
 have hB:=emul_on H hp (n+1)
 have hs:=M.s1
 -- the double of any multiple
 have D:∀ (m:Nat) (u v:Int),Rep PP s (u,v) (emul a d einv m p).2→Rep PP s (dU u v,dV u v) (emul a d einv (2*m) p).2:=fun m u v hw=>by
  have hm:=emul_on H hp m
  have g:=Rep.dbl H.pri H.cpl M hw hm (eadd_sm H hm hm)
  have e:Pe PP (eadd a d einv (emul a d einv m p) (emul a d einv m p)) (emul a d einv (2*m) p):=by
   rw [Nat.two_mul]
   exact (emul_add H hp m m).symm
  have k:ldbl 121665 (u,v)=(dU u v,dV u v):=by
   unfold ldbl dU dV dW
   simp only [Prod.mk.injEq,true_and]
   grind
  rw [k] at g
  exact g.cg e.2
 -- the sum of both
 have S:Rep PP s (sU t.a t.b t.c t.d,sV x t.a t.b t.c t.d) (emul a d einv (2*n+1) p).2:=by
  have hd:=(eadd_sm H hA (neg_on hB)).res (step_back H hA hp).1 (step_back H hA hp).2
  have hxr:PP ∣ x*(1 - p.2) - s*(1+p.2):=dv2 hr.1 hr.1 (c1:=1) (c2:=0) (by grind)
  have hn:¬ PP ∣ 1 - p.2:=fun k=>by
   have h2:PP ∣ 2:=by
    have q:PP ∣ s*2:=dv2 hxr k (c1:=-1) (c2:=x+s) (by grind)
    rcases hs with e | e
    ·rw [e] at q;simpa using q
    ·rw [e] at q
     exact dv2 q q (c1:=-1) (c2:=0) (by grind)
   exact pri_PP.two h2
  have g:=Rep.sum H.pri H.cpl hs h.l h.r hA hB (eadd_sm H hA hB) hd hxr hn hx
  have e:Pe PP (eadd a d einv (emul a d einv n p) (emul a d einv (n+1) p)) (emul a d einv (2*n+1) p):=by
   rw [show 2*n+1=n+(n+1) by omega]
   exact (emul_add H hp n (n+1)).symm
  exact g.cg e.2
 cases bit
 ·exact ⟨D n _ _ h.l,S⟩
 ·refine ⟨S, ?_⟩
  have g:=D (n+1) _ _ h.r
  rw [show 2*(n+1)=2*n+1+1 by omega] at g
  exact g
end
end Go.Proofs.YtnpolopcgmjmnaaGreatDoor
namespace Go.Proofs.YtnpolopcgmjmnaaGreatDoor
set_option maxRecDepth 100000
def ladS' (x K:Int):Int:=ladE x (fun i=>kbit K (255 - i)) 256
def L (x:Int) (K:Nat):Int:=ladS' x (K:Int) % PP
structure Clp (K:Nat):Prop where
 lo:28948022309329048855892746252171976963317496166410141009864396001978282409984≤K
 hi:K < 57896044618658097711785492504343953926634992332820282019728792003956564819968
 ev:K % 8=0
section
variable {a d b s x : Int} {p : Int × Int}
end
end Go.Proofs.YtnpolopcgmjmnaaGreatDoor
namespace Go.Proofs.YtnpolopcgmjmnaaGreatDoor
set_option maxRecDepth 100000
theorem prmq_2551:Prm 2551:=prime_by_trial (k:=49) (by decide) (by decide) (by decide)
theorem prmq_1224481:Prm 1224481:=cert_one (f:=21) (h:=921659) (by decide +kernel) (by decide +kernel) prmq_2551 (by decide +kernel) (by decide +kernel) (by decide +kernel) (by decide +kernel) (by decide +kernel)
theorem prmq_3797:Prm 3797:=prime_by_trial (k:=60) (by decide) (by decide) (by decide)
theorem prmq_531581:Prm 531581:=cert_one (f:=20) (h:=32301) (by decide +kernel) (by decide +kernel) prmq_3797 (by decide +kernel) (by decide +kernel) (by decide +kernel) (by decide +kernel) (by decide +kernel)
theorem prmq_125755973217n16:Prm 1257559732178653:=cert_two (f:=51) (h:=1252739704402215) (i:=1139842034583224) (by decide +kernel) (by decide +kernel) prmq_1224481 prmq_531581 (by decide +kernel) (by decide +kernel) (by decide +kernel) (by decide +kernel) (by decide +kernel) (by decide +kernel) (by decide +kernel) (by decide +kernel) (by decide +kernel)
theorem prmq_443415561566n19:Prm 4434155615661930479:=cert_one (f:=62) (h:=415787812636281767) (by decide +kernel) (by decide +kernel) prmq_125755973217n16 (by decide +kernel) (by decide +kernel) (by decide +kernel) (by decide +kernel) (by decide +kernel)
theorem prmq_172054593956n27:Prm 172054593956031949258510691:=cert_one (f:=88) (h:=81982237619807054769897707) (by decide +kernel) (by decide +kernel) prmq_443415561566n19 (by decide +kernel) (by decide +kernel) (by decide +kernel) (by decide +kernel) (by decide +kernel)
theorem prmq_197573303058n41:Prm 19757330305831588566944191468367130476339:=cert_one (f:=134) (h:=9148758478138211201771971577098600188172) (by decide +kernel) (by decide +kernel) prmq_172054593956n27 (by decide +kernel) (by decide +kernel) (by decide +kernel) (by decide +kernel) (by decide +kernel)
theorem prmq_276602624281n42:Prm 276602624281642239937218680557139826668747:=cert_one (f:=138) (h:=16384) (by decide +kernel) (by decide +kernel) prmq_197573303058n41 (by decide +kernel) (by decide +kernel) (by decide +kernel) (by decide +kernel) (by decide +kernel)
theorem prmq_723700557733n76:Prm 7237005577332262213973186563042994240857116359379907606001950938285454250989:=cert_one (f:=253) (h:=2975531125133123119648879457563281269120703404158613135195788908093573672641) (by decide +kernel) (by decide +kernel) prmq_276602624281n42 (by decide +kernel) (by decide +kernel) (by decide +kernel) (by decide +kernel) (by decide +kernel)
abbrev Q25519:Nat:=7237005577332262213973186563042994240857116359379907606001950938285454250989
theorem prm_Q:Prm Q25519:=prmq_723700557733n76
def nS (a b:Nat):Nat:=(a+b)*(a+b) % P25519
def nT (a b:Nat):Nat:=(a+P25519 - b)*(a+P25519 - b) % P25519
def nW (a b:Nat):Nat:=(nS a b+P25519 - nT a b) % P25519
section
variable {a b c d : Nat} {A B C D : Int}
end
section
variable {a d b s x : Int} {p : Int × Int}
theorem Clp.free {K:Nat} (h:Clp K):¬ Q25519 ∣ K:=fun k=>by
 have h1:=h.lo
 have h2:=h.hi
 have h3:=h.ev
 have e:Q25519 ∣ 8*(K / 8):=by rw [show 8*(K / 8)=K by omega];exact k
 rcases prm_Q.mul e with q | q
 ·exact absurd (Nat.le_of_dvd (by decide) q) (by decide)
 ·have h4 : 7237005577332262213973186563042994240857116359379907606001950938285454250989 ≤ K / 8 := Nat.le_of_dvd (by omega) q
  omega
end
end Go.Proofs.YtnpolopcgmjmnaaGreatDoor
namespace Go.Proofs.YtnpolopcgmjmnaaGreatDoor
set_option maxRecDepth 100000
open Go Go.RowKit
def wA (pZ qZ:Int):Int:=pZ*qZ
def wF (pX pY qX qY d:Int):Int:=d*((pX*qX)*(pY*qY))
def wL (pX pY pZ qX qY qZ d:Int):Int:=wA pZ qZ*wA pZ qZ - wF pX pY qX qY d
def wM (pX pY pZ qX qY qZ d:Int):Int:=wA pZ qZ*wA pZ qZ+wF pX pY qX qY d
def wX (pX pY pZ qX qY qZ d:Int):Int:=wA pZ qZ*wL pX pY pZ qX qY qZ d*((pX+pY)*(qX+qY) - pX*qX - pY*qY)
def wY (pX pY pZ qX qY qZ d:Int):Int:=wA pZ qZ*wM pX pY pZ qX qY qZ d*(pY*qY+pX*qX)
def wZ (pX pY pZ qX qY qZ d:Int):Int:=wL pX pY pZ qX qY qZ d*wM pX pY pZ qX qY qZ d
theorem elt3_new (W:World) (t:TypeId) {a b c:Nat→Int} {A B C:Int} (ha:L16 a∧s16 a 16 % PP=A % PP) (hb:L16 b∧s16 b 16 % PP=B % PP) (hc:L16 c∧s16 c 16 % PP=C % PP) :
  Elt3 (W.alloc (.cells (c48 a b c).toArray t)) W.heap.size A B C:=by
 have e:(W.alloc (.cells (c48 a b c).toArray t)).heap[W.heap.size]?=some (.cells (c48 a b c).toArray t):=heap_alloc_last _ _
 refine ⟨a,b,c,fun j v hv=>?_,by simp,ha,hb,hc⟩
 unfold World.cell?
 simp only
 rw [e]
 simpa using hv
theorem elt_new (W:World) (t:TypeId) {a:Nat→Int} {A:Int} (ha:L16 a∧s16 a 16 % PP=A % PP):Elt (W.alloc (.cells (a16 a) t)) W.heap.size 0 A :=
 Elt.ofR (R16.ofBlk (blk16 W t a)) ha.1 ha.2
set_option maxHeartbeats 4000000 in
theorem l5Sum_any (w:World) (a b c a' b' c' e:Nat→Int) (pX pY pZ qX qY qZ d:Int) (ha:L16 a∧s16 a 16 % PP=pX % PP) (hb:L16 b∧s16 b 16 % PP=pY % PP) (hc:L16 c∧s16 c 16 % PP=pZ % PP)
  (ha':L16 a'∧s16 a' 16 % PP=qX % PP) (hb':L16 b'∧s16 b' 16 % PP=qY % PP) (hc':L16 c'∧s16 c' 16 % PP=qZ % PP) (he:L16 e∧s16 e 16 % PP=d % PP) :
  Calls Tryz.prog 22 #[ag48 a b c,ag48 a' b' c',ag16 e] w fun r w'=>∃ x y z,r = .returned (ag48 x y z)∧(L16 x∧s16 x 16 % PP=wX pX pY pZ qX qY qZ d % PP)∧(L16 y∧s16 y 16 % PP=wY pX pY pZ qX qY qZ d % PP)∧(L16 z∧s16 z 16 % PP=wZ pX pY pZ qX qY qZ d % PP)∧Below w.heap.size w w':=by
 show Calls Tryz.prog 22 #[.agg (c48 a b c).toArray,.agg (c48 a' b' c').toArray,.agg (a16 e)] w _
 have H1:=elt3_new w 38 ha hb hc
 have m1:Below w.heap.size w (w.alloc (.cells (c48 a b c).toArray 38)):=(Below.refl _ _).alloc (Nat.le_refl _) _
 have s1:(w.alloc (.cells (c48 a b c).toArray 38)).heap.size=w.heap.size+1:=by simp
 have H2:=fun W=>elt3_new W 38 ha' hb' hc'
 have H3:=fun W=>elt_new W 36 he
 obtain ⟨V1,hV1⟩:∃ V,V=(c48 a b c).toArray:=⟨_,rfl⟩
 obtain ⟨V2,hV2⟩:∃ V,V=(c48 a' b' c').toArray:=⟨_,rfl⟩
 obtain ⟨V3,hV3⟩:∃ V,V=a16 e:=⟨_,rfl⟩
 rw [← hV1] at H1 m1 s1 ⊢
 simp only [← hV2] at H2 ⊢
 simp only [← hV3] at H3 ⊢
 clear hV1 hV2 hV3 ha hb hc ha' hb' hc' he
 go_enter Tryz.func22,Tryz.ntmps22
 go_upto_region 1 with fail
 generalize w.alloc (.cells V1 38)=wa at *
 have H2':=H2 wa
 have m2:Below wa.heap.size wa (wa.alloc (.cells V2 38)):=(Below.refl _ _).alloc (Nat.le_refl _) _
 have s2:(wa.alloc (.cells V2 38)).heap.size=wa.heap.size+1:=by simp
 rw [s1] at H2' s2
 generalize wa.alloc (.cells V2 38)=wb at *
 have H3':=H3 wb
 have m3:Below wb.heap.size wb (wb.alloc (.cells V3 36)):=(Below.refl _ _).alloc (Nat.le_refl _) _
 have s3:(wb.alloc (.cells V3 36)).heap.size=wb.heap.size+1:=by simp
 rw [s2] at H3' s3
 generalize wb.alloc (.cells V3 36)=wc at *
 have TR:(wc.alloc zObj48).there wc.heap.size 0 48:=there_new wc _ _
 have m4:Below wc.heap.size wc (wc.alloc zObj48):=(Below.refl _ _).alloc (Nat.le_refl _) _
 rw [s3] at TR
 have HP:=((H1.up m2).up m3).up m4
 have HQ:=(H2'.up m3).up m4
 have HD:=H3'.up m4
 have N:=nxt (nxt (nxt m1 m2) m3) m4
 clear H1 H2 H3 H2' H3' m1 m2 m3 s1 s2 s3 m4
 obtain ⟨wr,hwr⟩:∃ W,W=wc.alloc zObj48:=⟨_,rfl⟩
 rw [← hwr] at TR HP HQ HD N
 change Code.wp _ _ _ _ (wc.alloc zObj48)
 rw [← hwr]
 clear hwr
 refine region_new16 6 5 4 7 19 _ (fun i=>[Fact.eq (.pointer (some ⟨w.heap.size,32,none⟩)),EL (pZ),Fact.eq (.pointer (some ⟨w.heap.size+1,32,none⟩)),EL (qZ),EL ((pZ)*(qZ)),NB wr 16].getD i Fact.no) ((pZ)*(qZ)) (by kernel_rfl) rfl rfl rfl (by kernel_rfl) (by kernel_rfl) rfl rfl ?_ ?_
 ·intro i hi
  obtain rfl | rfl | rfl | rfl | rfl | rfl:i=0∨i=1∨i=2∨i=3∨i=4∨i=5:=by omega
  ·exact step_fld rfl 38 3 2 rfl (by kernel_rfl) _ _ rfl (fz48 _) rfl
  ·exact step_elf rfl 36 15 0 rfl Go.Proofs.YtnpolopcgmjmnaaGreatDoor.u50 i50 (by kernel_rfl) _ _ rfl _ HP.z rfl
  ·exact step_fld rfl 38 4 2 rfl (by kernel_rfl) _ _ rfl (fz48 _) rfl
  ·exact step_elf rfl 36 17 2 rfl Go.Proofs.YtnpolopcgmjmnaaGreatDoor.u50 i50 (by kernel_rfl) _ _ rfl _ HQ.z rfl
  ·exact step_mul rfl 16 18 1 3 _ _ rfl (by kernel_rfl) (by kernel_rfl) rfl rfl rfl
  ·exact step_new16 rfl rfl rfl
 intro vs1 q7 W1 v7 h1 n1 E7 T1
 clear T1
 replace HP:=HP.up n1
 replace HQ:=HQ.up n1
 replace HD:=HD.up n1
 replace N:=nxt N n1
 replace TR:=there_up (by omega) TR n1
 clear n1
 obtain ⟨x7,g7⟩:∃ e,e=(pZ)*(qZ):=⟨_,rfl⟩
 rw [← g7] at E7
 simp only [puts,v7,Act.put,List.setIfInBounds_toArray,List.set_cons_succ,List.set_cons_zero]
 clear v7
 go_upto_region 2 with fail
 refine region_new16 4 3 2 8 22 _ (fun i=>[EL (x7),EL (x7),EL ((x7)*(x7)),NB W1 16].getD i Fact.no) ((x7)*(x7)) (by kernel_rfl) rfl rfl rfl (by kernel_rfl) (by kernel_rfl) rfl rfl ?_ ?_
 ·intro i hi
  obtain rfl | rfl | rfl | rfl:i=0∨i=1∨i=2∨i=3:=by omega
  ·exact step_el rfl 36 7 rfl Go.Proofs.YtnpolopcgmjmnaaGreatDoor.u50 i50 (by kernel_rfl) _ _ rfl _ E7 rfl
  ·exact step_el rfl 36 7 rfl Go.Proofs.YtnpolopcgmjmnaaGreatDoor.u50 i50 (by kernel_rfl) _ _ rfl _ E7 rfl
  ·exact step_mul rfl 20 21 0 1 _ _ rfl (by kernel_rfl) (by kernel_rfl) rfl rfl rfl
  ·exact step_new16 rfl rfl rfl
 intro vs2 q8 W2 v8 h2 n2 E8 T2
 clear T2
 replace HP:=HP.up n2
 replace HQ:=HQ.up n2
 replace HD:=HD.up n2
 replace E7:=E7.up n2
 replace N:=nxt N n2
 replace TR:=there_up (by omega) TR n2
 clear n2
 obtain ⟨x8,g8⟩:∃ e,e=(x7)*(x7):=⟨_,rfl⟩
 rw [← g8] at E8
 simp only [puts,v8,Act.put,List.setIfInBounds_toArray,List.set_cons_succ,List.set_cons_zero]
 clear v8
 go_upto_region 3 with fail
 refine region_new16 6 5 4 9 27 _ (fun i=>[Fact.eq (.pointer (some ⟨w.heap.size,0,none⟩)),EL (pX),Fact.eq (.pointer (some ⟨w.heap.size+1,0,none⟩)),EL (qX),EL ((pX)*(qX)),NB W2 16].getD i Fact.no) ((pX)*(qX)) (by kernel_rfl) rfl rfl rfl (by kernel_rfl) (by kernel_rfl) rfl rfl ?_ ?_
 ·intro i hi
  obtain rfl | rfl | rfl | rfl | rfl | rfl:i=0∨i=1∨i=2∨i=3∨i=4∨i=5:=by omega
  ·exact step_fld rfl 38 3 0 rfl (by kernel_rfl) _ _ rfl (fx48 _) rfl
  ·exact step_elf rfl 36 23 0 rfl Go.Proofs.YtnpolopcgmjmnaaGreatDoor.u50 i50 (by kernel_rfl) _ _ rfl _ HP.x rfl
  ·exact step_fld rfl 38 4 0 rfl (by kernel_rfl) _ _ rfl (fx48 _) rfl
  ·exact step_elf rfl 36 25 2 rfl Go.Proofs.YtnpolopcgmjmnaaGreatDoor.u50 i50 (by kernel_rfl) _ _ rfl _ HQ.x rfl
  ·exact step_mul rfl 24 26 1 3 _ _ rfl (by kernel_rfl) (by kernel_rfl) rfl rfl rfl
  ·exact step_new16 rfl rfl rfl
 intro vs3 q9 W3 v9 h3 n3 E9 T3
 clear T3
 replace HP:=HP.up n3
 replace HQ:=HQ.up n3
 replace HD:=HD.up n3
 replace E7:=E7.up n3
 replace E8:=E8.up n3
 replace N:=nxt N n3
 replace TR:=there_up (by omega) TR n3
 clear n3
 obtain ⟨x9,g9⟩:∃ e,e=(pX)*(qX):=⟨_,rfl⟩
 rw [← g9] at E9
 simp only [puts,v9,Act.put,List.setIfInBounds_toArray,List.set_cons_succ,List.set_cons_zero]
 clear v9
 go_upto_region 4 with fail
 refine region_new16 6 5 4 10 32 _ (fun i=>[Fact.eq (.pointer (some ⟨w.heap.size,16,none⟩)),EL (pY),Fact.eq (.pointer (some ⟨w.heap.size+1,16,none⟩)),EL (qY),EL ((pY)*(qY)),NB W3 16].getD i Fact.no) ((pY)*(qY)) (by kernel_rfl) rfl rfl rfl (by kernel_rfl) (by kernel_rfl) rfl rfl ?_ ?_
 ·intro i hi
  obtain rfl | rfl | rfl | rfl | rfl | rfl:i=0∨i=1∨i=2∨i=3∨i=4∨i=5:=by omega
  ·exact step_fld rfl 38 3 1 rfl (by kernel_rfl) _ _ rfl (fy48 _) rfl
  ·exact step_elf rfl 36 28 0 rfl Go.Proofs.YtnpolopcgmjmnaaGreatDoor.u50 i50 (by kernel_rfl) _ _ rfl _ HP.y rfl
  ·exact step_fld rfl 38 4 1 rfl (by kernel_rfl) _ _ rfl (fy48 _) rfl
  ·exact step_elf rfl 36 30 2 rfl Go.Proofs.YtnpolopcgmjmnaaGreatDoor.u50 i50 (by kernel_rfl) _ _ rfl _ HQ.y rfl
  ·exact step_mul rfl 29 31 1 3 _ _ rfl (by kernel_rfl) (by kernel_rfl) rfl rfl rfl
  ·exact step_new16 rfl rfl rfl
 intro vs4 q10 W4 v10 h4 n4 E10 T4
 clear T4
 replace HP:=HP.up n4
 replace HQ:=HQ.up n4
 replace HD:=HD.up n4
 replace E7:=E7.up n4
 replace E8:=E8.up n4
 replace E9:=E9.up n4
 replace N:=nxt N n4
 replace TR:=there_up (by omega) TR n4
 clear n4
 obtain ⟨x10,g10⟩:∃ e,e=(pY)*(qY):=⟨_,rfl⟩
 rw [← g10] at E10
 simp only [puts,v10,Act.put,List.setIfInBounds_toArray,List.set_cons_succ,List.set_cons_zero]
 clear v10
 go_upto_region 5 with fail
 refine region_new16 6 5 4 11 37 _ (fun i=>[EL (d),EL (x9),EL (x10),EL ((x9)*(x10)),EL ((d)*((x9)*(x10))),NB W4 16].getD i Fact.no) ((d)*((x9)*(x10))) (by kernel_rfl) rfl rfl rfl (by kernel_rfl) (by kernel_rfl) rfl rfl ?_ ?_
 ·intro i hi
  obtain rfl | rfl | rfl | rfl | rfl | rfl:i=0∨i=1∨i=2∨i=3∨i=4∨i=5:=by omega
  ·exact step_el rfl 36 5 rfl Go.Proofs.YtnpolopcgmjmnaaGreatDoor.u50 i50 (by kernel_rfl) _ _ rfl _ HD rfl
  ·exact step_el rfl 36 9 rfl Go.Proofs.YtnpolopcgmjmnaaGreatDoor.u50 i50 (by kernel_rfl) _ _ rfl _ E9 rfl
  ·exact step_el rfl 36 10 rfl Go.Proofs.YtnpolopcgmjmnaaGreatDoor.u50 i50 (by kernel_rfl) _ _ rfl _ E10 rfl
  ·exact step_mul rfl 34 35 1 2 _ _ rfl (by kernel_rfl) (by kernel_rfl) rfl rfl rfl
  ·exact step_mul rfl 33 36 0 3 _ _ rfl (by kernel_rfl) (by kernel_rfl) rfl rfl rfl
  ·exact step_new16 rfl rfl rfl
 intro vs5 q11 W5 v11 h5 n5 E11 T5
 clear T5
 replace HP:=HP.up n5
 replace HQ:=HQ.up n5
 replace HD:=HD.up n5
 replace E7:=E7.up n5
 replace E8:=E8.up n5
 replace E9:=E9.up n5
 replace E10:=E10.up n5
 replace N:=nxt N n5
 replace TR:=there_up (by omega) TR n5
 clear n5
 obtain ⟨x11,g11⟩:∃ e,e=(d)*((x9)*(x10)):=⟨_,rfl⟩
 rw [← g11] at E11
 simp only [puts,v11,Act.put,List.setIfInBounds_toArray,List.set_cons_succ,List.set_cons_zero]
 clear v11
 go_upto_region 6 with fail
 refine region_new16 4 3 2 12 40 _ (fun i=>[EL (x8),EL (x11),EL ((x8) - (x11)),NB W5 16].getD i Fact.no) ((x8) - (x11)) (by kernel_rfl) rfl rfl rfl (by kernel_rfl) (by kernel_rfl) rfl rfl ?_ ?_
 ·intro i hi
  obtain rfl | rfl | rfl | rfl:i=0∨i=1∨i=2∨i=3:=by omega
  ·exact step_el rfl 36 8 rfl Go.Proofs.YtnpolopcgmjmnaaGreatDoor.u50 i50 (by kernel_rfl) _ _ rfl _ E8 rfl
  ·exact step_el rfl 36 11 rfl Go.Proofs.YtnpolopcgmjmnaaGreatDoor.u50 i50 (by kernel_rfl) _ _ rfl _ E11 rfl
  ·exact step_sub rfl 38 39 0 1 _ _ rfl (by kernel_rfl) (by kernel_rfl) rfl rfl rfl
  ·exact step_new16 rfl rfl rfl
 intro vs6 q12 W6 v12 h6 n6 E12 T6
 clear T6
 replace HP:=HP.up n6
 replace HQ:=HQ.up n6
 replace HD:=HD.up n6
 replace E7:=E7.up n6
 replace E8:=E8.up n6
 replace E9:=E9.up n6
 replace E10:=E10.up n6
 replace E11:=E11.up n6
 replace N:=nxt N n6
 replace TR:=there_up (by omega) TR n6
 clear n6
 obtain ⟨x12,g12⟩:∃ e,e=(x8) - (x11):=⟨_,rfl⟩
 rw [← g12] at E12
 simp only [puts,v12,Act.put,List.setIfInBounds_toArray,List.set_cons_succ,List.set_cons_zero]
 clear v12
 go_upto_region 7 with fail
 refine region_new16 4 3 2 13 43 _ (fun i=>[EL (x8),EL (x11),EL ((x8)+(x11)),NB W6 16].getD i Fact.no) ((x8)+(x11)) (by kernel_rfl) rfl rfl rfl (by kernel_rfl) (by kernel_rfl) rfl rfl ?_ ?_
 ·intro i hi
  obtain rfl | rfl | rfl | rfl:i=0∨i=1∨i=2∨i=3:=by omega
  ·exact step_el rfl 36 8 rfl Go.Proofs.YtnpolopcgmjmnaaGreatDoor.u50 i50 (by kernel_rfl) _ _ rfl _ E8 rfl
  ·exact step_el rfl 36 11 rfl Go.Proofs.YtnpolopcgmjmnaaGreatDoor.u50 i50 (by kernel_rfl) _ _ rfl _ E11 rfl
  ·exact step_add rfl 41 42 0 1 _ _ rfl (by kernel_rfl) (by kernel_rfl) rfl rfl rfl
  ·exact step_new16 rfl rfl rfl
 intro vs7 q13 W7 v13 h7 n7 E13 T7
 clear T7
 replace HP:=HP.up n7
 replace HQ:=HQ.up n7
 replace HD:=HD.up n7
 replace E7:=E7.up n7
 replace E8:=E8.up n7
 replace E9:=E9.up n7
 replace E10:=E10.up n7
 replace E11:=E11.up n7
 replace E12:=E12.up n7
 replace N:=nxt N n7
 replace TR:=there_up (by omega) TR n7
 clear n7
 obtain ⟨x13,g13⟩:∃ e,e=(x8)+(x11):=⟨_,rfl⟩
 rw [← g13] at E13
 simp only [puts,v13,Act.put,List.setIfInBounds_toArray,List.set_cons_succ,List.set_cons_zero]
 clear v13
 go_upto_region 8 with fail
 refine region_new16 16 15 14 14 58 _ (fun i=>[Fact.eq (.pointer (some ⟨w.heap.size,0,none⟩)),EL (pX),Fact.eq (.pointer (some ⟨w.heap.size,16,none⟩)),EL (pY),EL ((pX)+(pY)),Fact.eq (.pointer (some ⟨w.heap.size+1,0,none⟩)),EL (qX),Fact.eq (.pointer (some ⟨w.heap.size+1,16,none⟩)),EL (qY),EL ((qX)+(qY)),EL (((pX)+(pY))*((qX)+(qY))),EL (x9),EL ((((pX)+(pY))*((qX)+(qY))) - (x9)),EL (x10),EL (((((pX)+(pY))*((qX)+(qY))) - (x9)) - (x10)),NB W7 16].getD i Fact.no) (((((pX)+(pY))*((qX)+(qY))) - (x9)) - (x10)) (by kernel_rfl) rfl rfl rfl (by kernel_rfl) (by kernel_rfl) rfl rfl ?_ ?_
 ·intro i hi
  obtain rfl | rfl | rfl | rfl | rfl | rfl | rfl | rfl | rfl | rfl | rfl | rfl | rfl | rfl | rfl | rfl:i=0∨i=1∨i=2∨i=3∨i=4∨i=5∨i=6∨i=7∨i=8∨i=9∨i=10∨i=11∨i=12∨i=13∨i=14∨i=15:=by omega
  ·exact step_fld rfl 38 3 0 rfl (by kernel_rfl) _ _ rfl (fx48 _) rfl
  ·exact step_elf rfl 36 44 0 rfl Go.Proofs.YtnpolopcgmjmnaaGreatDoor.u50 i50 (by kernel_rfl) _ _ rfl _ HP.x rfl
  ·exact step_fld rfl 38 3 1 rfl (by kernel_rfl) _ _ rfl (fy48 _) rfl
  ·exact step_elf rfl 36 46 2 rfl Go.Proofs.YtnpolopcgmjmnaaGreatDoor.u50 i50 (by kernel_rfl) _ _ rfl _ HP.y rfl
  ·exact step_add rfl 45 47 1 3 _ _ rfl (by kernel_rfl) (by kernel_rfl) rfl rfl rfl
  ·exact step_fld rfl 38 4 0 rfl (by kernel_rfl) _ _ rfl (fx48 _) rfl
  ·exact step_elf rfl 36 49 5 rfl Go.Proofs.YtnpolopcgmjmnaaGreatDoor.u50 i50 (by kernel_rfl) _ _ rfl _ HQ.x rfl
  ·exact step_fld rfl 38 4 1 rfl (by kernel_rfl) _ _ rfl (fy48 _) rfl
  ·exact step_elf rfl 36 51 7 rfl Go.Proofs.YtnpolopcgmjmnaaGreatDoor.u50 i50 (by kernel_rfl) _ _ rfl _ HQ.y rfl
  ·exact step_add rfl 50 52 6 8 _ _ rfl (by kernel_rfl) (by kernel_rfl) rfl rfl rfl
  ·exact step_mul rfl 48 53 4 9 _ _ rfl (by kernel_rfl) (by kernel_rfl) rfl rfl rfl
  ·exact step_el rfl 36 9 rfl Go.Proofs.YtnpolopcgmjmnaaGreatDoor.u50 i50 (by kernel_rfl) _ _ rfl _ E9 rfl
  ·exact step_sub rfl 54 55 10 11 _ _ rfl (by kernel_rfl) (by kernel_rfl) rfl rfl rfl
  ·exact step_el rfl 36 10 rfl Go.Proofs.YtnpolopcgmjmnaaGreatDoor.u50 i50 (by kernel_rfl) _ _ rfl _ E10 rfl
  ·exact step_sub rfl 56 57 12 13 _ _ rfl (by kernel_rfl) (by kernel_rfl) rfl rfl rfl
  ·exact step_new16 rfl rfl rfl
 intro vs8 q14 W8 v14 h8 n8 E14 T8
 clear T8
 replace HP:=HP.up n8
 replace HQ:=HQ.up n8
 replace HD:=HD.up n8
 replace E7:=E7.up n8
 replace E8:=E8.up n8
 replace E9:=E9.up n8
 replace E10:=E10.up n8
 replace E11:=E11.up n8
 replace E12:=E12.up n8
 replace E13:=E13.up n8
 replace N:=nxt N n8
 replace TR:=there_up (by omega) TR n8
 clear n8
 obtain ⟨x14,g14⟩:∃ e,e=((((pX)+(pY))*((qX)+(qY))) - (x9)) - (x10):=⟨_,rfl⟩
 rw [← g14] at E14
 simp only [puts,v14,Act.put,List.setIfInBounds_toArray,List.set_cons_succ,List.set_cons_zero]
 clear v14
 go_upto_region 9 with fail
 refine region_put48 16 15 6 74 _ (fun i=>[EL (x7),EL (x12),EL ((x7)*(x12)),EL (x14),EL (((x7)*(x12))*(x14)),EL (x7),EL (x13),EL ((x7)*(x13)),EL (x10),EL (x9),EL ((x10)+(x9)),EL (((x7)*(x13))*((x10)+(x9))),EL (x12),EL (x13),EL ((x12)*(x13)),E3 (((x7)*(x12))*(x14)) (((x7)*(x13))*((x10)+(x9))) ((x12)*(x13))].getD i Fact.no) (((x7)*(x12))*(x14)) (((x7)*(x13))*((x10)+(x9))) ((x12)*(x13)) _ (by kernel_rfl) rfl rfl rfl (by kernel_rfl) rfl TR (by kernel_rfl) rfl ?_ ?_
 ·intro i hi
  obtain rfl | rfl | rfl | rfl | rfl | rfl | rfl | rfl | rfl | rfl | rfl | rfl | rfl | rfl | rfl | rfl:i=0∨i=1∨i=2∨i=3∨i=4∨i=5∨i=6∨i=7∨i=8∨i=9∨i=10∨i=11∨i=12∨i=13∨i=14∨i=15:=by omega
  ·exact step_el rfl 36 7 rfl Go.Proofs.YtnpolopcgmjmnaaGreatDoor.u50 i50 (by kernel_rfl) _ _ rfl _ E7 rfl
  ·exact step_el rfl 36 12 rfl Go.Proofs.YtnpolopcgmjmnaaGreatDoor.u50 i50 (by kernel_rfl) _ _ rfl _ E12 rfl
  ·exact step_mul rfl 59 60 0 1 _ _ rfl (by kernel_rfl) (by kernel_rfl) rfl rfl rfl
  ·exact step_el rfl 36 14 rfl Go.Proofs.YtnpolopcgmjmnaaGreatDoor.u50 i50 (by kernel_rfl) _ _ rfl _ E14 rfl
  ·exact step_mul rfl 61 62 2 3 _ _ rfl (by kernel_rfl) (by kernel_rfl) rfl rfl rfl
  ·exact step_el rfl 36 7 rfl Go.Proofs.YtnpolopcgmjmnaaGreatDoor.u50 i50 (by kernel_rfl) _ _ rfl _ E7 rfl
  ·exact step_el rfl 36 13 rfl Go.Proofs.YtnpolopcgmjmnaaGreatDoor.u50 i50 (by kernel_rfl) _ _ rfl _ E13 rfl
  ·exact step_mul rfl 64 65 5 6 _ _ rfl (by kernel_rfl) (by kernel_rfl) rfl rfl rfl
  ·exact step_el rfl 36 10 rfl Go.Proofs.YtnpolopcgmjmnaaGreatDoor.u50 i50 (by kernel_rfl) _ _ rfl _ E10 rfl
  ·exact step_el rfl 36 9 rfl Go.Proofs.YtnpolopcgmjmnaaGreatDoor.u50 i50 (by kernel_rfl) _ _ rfl _ E9 rfl
  ·exact step_add rfl 67 68 8 9 _ _ rfl (by kernel_rfl) (by kernel_rfl) rfl rfl rfl
  ·exact step_mul rfl 66 69 7 10 _ _ rfl (by kernel_rfl) (by kernel_rfl) rfl rfl rfl
  ·exact step_el rfl 36 12 rfl Go.Proofs.YtnpolopcgmjmnaaGreatDoor.u50 i50 (by kernel_rfl) _ _ rfl _ E12 rfl
  ·exact step_el rfl 36 13 rfl Go.Proofs.YtnpolopcgmjmnaaGreatDoor.u50 i50 (by kernel_rfl) _ _ rfl _ E13 rfl
  ·exact step_mul rfl 71 72 12 13 _ _ rfl (by kernel_rfl) (by kernel_rfl) rfl rfl rfl
  ·exact step_b48 rfl 63 70 73 4 11 14 _ _ _ rfl (by kernel_rfl) (by kernel_rfl) (by kernel_rfl) rfl rfl rfl rfl
 intro vs9 Wa Wb na bq E9' T9 nb
 have NS:=nb w w.heap.size (nxt N na) (by omega)
 simp only [puts,Act.put,List.setIfInBounds_toArray,List.set_cons_succ,List.set_cons_zero]
 clear HP HQ HD E7 E8 E9 E10 E11 E12 E13 E14 TR T9 bq nb na N
 go_wp2
 obtain ⟨x,y,z,rg,_,hx,hy,hz⟩:=E9'
 have lz:(c48 x y z).length=48:=c48_len x y z
 subst g7 g8 g9 g10 g11 g12 g13 g14
 obtain ⟨fs,hfs⟩:=u144
 exact bodyPost_ret (v:=ag48 x y z) (results_cell_mid Tryz.results22 _ _ (w.heap.size+1+1+1) (c48 x y z) _ rfl rg hfs rfl (by rw [lz];exact i144)) rfl ⟨x,y,z,rfl,hx,hy,hz,NS⟩
end Go.Proofs.YtnpolopcgmjmnaaGreatDoor
namespace Go.Proofs.YtnpolopcgmjmnaaGreatDoor
set_option maxRecDepth 100000
open Go Go.RowKit
def dE:Int:=(0 - 121665)*iv 121666
theorem there_z (W:World):(W.alloc zObj).there W.heap.size 0 16:=there_new W _ _
def RN (w0:World) (p:List Int→Prop):Fact:=⟨fun v w=>∃ (xs:List Int) (a:Option Addr) (c g:Nat),v = .slice a xs.length c∧Own w g a .u8 xs∧w0.heap.size≤g∧p xs∧(a=none→c=0)∧xs.length≤c,fun n h=>by
 obtain ⟨xs,a,c,g,e,o,q⟩:=h
 exact ⟨xs,a,c,g,e,o.up n,q⟩⟩
def PT (w0:World) (p:List Int→List Int→Prop):Fact:=⟨fun v w=>∃ (xs ys:List Int) (a a':Option Addr) (c c' g g':Nat),v = .agg #[.slice a xs.length c,.slice a' ys.length c']∧Own w g a .u8 xs∧Own w g' a' .u8 ys∧w0.heap.size≤g∧w0.heap.size≤g'∧p xs ys,fun n h=>by
 obtain ⟨xs,ys,a,a',c,c',g,g',e,o,o',q⟩:=h
 exact ⟨xs,ys,a,a',c,c',g,g',e,o.up n,o'.up n,q⟩⟩
theorem buP (w:World) (a a':Option Addr) (m m' c c':Nat):(Instr.build 29 #[(0,.slice a m c),(1,.slice a' m' c')]).run Tryz.prog w = .ok (.agg #[.slice a m c,.slice a' m' c']) w:=by kernel_rfl
theorem iP:(Tryz.prog.info? 29).map (·.size)=some 2:=by kernel_rfl
theorem uP:∃ fs,Tryz.prog.underlying 29=some (.struct fs):=⟨_,Tryz.underlying29⟩
theorem en_bytes:enters Tryz.prog 33=true:=by kernel_rfl
theorem en_d:enters Tryz.prog 19=true:=by kernel_rfl
theorem en_of:enters Tryz.prog 20=true:=by kernel_rfl
section
variable {ops : Array Oper} {Q : Exit → Act → World → Prop} {md : Region.Mode} {F : Nat → Fact} {a0 : Act} {w0 : World} {i : Nat} {o : Oper} {ts : Array TypeId}
theorem step_bytes (hi:ops[i]?=some o) (p j:Nat) (A:Int) (hop:o.op = .call { callee := .value (.func 33),args := #[.tmp p],argTypes:=ts })
  (hj:waits md ops i j p=true) (hFj:F j=EL A) (hFi:F i=RN w0 (fun xs=>xs=fill (byt (A % PP)) 32)):StepOk Tryz.prog md ops Q F a0 w0 i:=by
 refine step_call hi _ _ ts hop en_bytes fun a w _ hw hF=>?_
 have ea:=hF j p hj
 rw [hFj] at ea
 obtain ⟨t,e1,L1,V1⟩:=ea
 show Calls Tryz.prog 33 #[a.tmps.getD p undef] w _
 rw [e1]
 refine (l2Bytes_any w t L1).mono ?_
 rintro r w' ⟨⟨b,c,g,rfl,ow,k1,k2,hg⟩,hn⟩
 rw [hFi]
 exact ⟨_,rfl,hn,_,b,c,g,rfl,ow,Nat.le_trans hw.size hg,by rw [V1],k1,k2⟩
theorem step_bp (hi:ops[i]?=some o) (p q j k:Nat) (f g:List Int→Prop) (hop:o.op = .build 29 #[(0,.tmp p),(1,.tmp q)])
  (hj:waits md ops i j p=true) (hk:waits md ops i k q=true) (hFj:F j=RN w0 f) (hFk:F k=RN w0 g) (hFi:F i=PT w0 (fun xs ys=>f xs∧g ys)):StepOk Tryz.prog md ops Q F a0 w0 i:=by
 refine step_pure hi fun a w _ _ hf=>?_
 have h1:=hf j p hj
 have h2:=hf k q hk
 rw [hFj] at h1
 rw [hFk] at h2
 obtain ⟨xs,b,c,h,e1,o1,l1,p1,_,_⟩:=h1
 obtain ⟨ys,b',c',h',e2,o2,l2,p2,_,_⟩:=h2
 refine ⟨.agg #[.slice b xs.length c,.slice b' ys.length c'],?_,by rw [hFi];exact ⟨xs,ys,b,b',c,c',h,h',rfl,o1,o2,l1,l2,p1,p2⟩⟩
 have g1:a.eval (.tmp p) = .slice b xs.length c:=e1
 have g2:a.eval (.tmp q) = .slice b' ys.length c':=e2
 have gg:(#[(0,Operand.tmp p),(1,Operand.tmp q)].map fun (n,x)=>(n,a.eval x)) = #[(0,Value.slice b xs.length c),(1,.slice b' ys.length c')]:=by simp [g1,g2]
 simp only [execOp,hop,gg]
 rw [Sem.run_bind,buP]
 rfl
end
section
variable {ops : Array Oper} {Q : Exit → Act → World → Prop} {a0 : Act} {w : World} {id : Nat} {draw : Bool}
theorem region_putP (k jV pD pV:Nat) (o:Oper) (F:Nat→Fact) (p:List Int→List Int→Prop) (q:Nat) (hT:textOk .any ops a0.tmps.size k=true) (hk:ops[k]?=some o) (hd:o.dst=none) (hop:o.op = .store 29 (.tmp pD) (.tmp pV))
  (hp:apart ops pD=true) (h0:a0.tmps.getD pD undef = .pointer (some ⟨q,0,none⟩)) (ht:w.there q 0 2)
  (wV:writes ops jV pV=true) (FV:F jV=PT w p) (steps:∀ i,i < k→StepOk Tryz.prog .any ops Q F a0 w i)
  (fin:∀ (vs:Nat→Value) (W W':World) (xs ys:List Int) (a a':Option Addr) (c c' g g':Nat),Below w.heap.size w W→ButQ q w W'→W'.rangeAt q 0 [.slice a xs.length c,.slice a' ys.length c']→Own W' g a .u8 xs→Own W' g' a' .u8 ys→w.heap.size≤g→w.heap.size≤g'→p xs ys→(∀ (w1:World) (B:Nat),Below B w1 W→B≤q→Below B w1 W')→Q .normal (puts vs a0 ops.toList) W') :
  (Code.region id ops draw).wp Tryz.prog Q a0 w:=by
 refine region_store k o F (by kernel_rfl) hT hk hd steps fun a W hb hw hF=>?_
 have h2:=hF jV pV wV
 rw [FV] at h2
 obtain ⟨xs,ys,b,b',c,c',g,g',ev,o1,o2,l1,l2,hpp⟩:=h2
 have th:=there_up (by omega) ht hw
 refine wp_store_mid 29 (.tmp pD) (.tmp pV) hop q 0 #[.slice b xs.length c,.slice b' ys.length c'] ((based_at hb pD hp).trans h0) ev th iP (by simp [Value.oneCell']) ?_
 obtain ⟨vs,hvs⟩:∃ vs:Nat→Value,∀ d,a.tmps.getD d undef=vs d:=⟨_,fun _=>rfl⟩
 rw [hd]
 show Q .normal a _
 rw [puts_of hT rfl hb vs hvs]
 have lq:=there_lt (by omega) ht
 refine fin vs W _ xs ys b b' c c' g g' hw (but_set hw _) (World.rangeAt_setCells_same W q 0 _ th) ?_ ?_ l1 l2 hpp (fun w1 B n hB=>below_setCells hB _ _ _ n)
 ·exact fun h0=>o1.of_block (setCells_other (by omega) _ 0 W) h0
 ·exact fun h0=>o2.of_block (setCells_other (by omega) _ 0 W) h0
end
set_option maxHeartbeats 1000000 in
theorem l5D_any (w:World):Calls Tryz.prog 19 #[] w fun r w'=>∃ t,r = .returned (ag16 t)∧L16 t∧s16 t 16 % PP=dE % PP∧Below w.heap.size w w':=by
 go_enter Tryz.func19,Tryz.ntmps19
 go_upto_region 1 with fail
 change Code.wp _ _ _ _ (w.alloc zObj)
 have TR:=there_z w
 have N:Below w.heap.size w (w.alloc zObj):=(Below.refl _ _).alloc (Nat.le_refl _) _
 generalize w.alloc zObj=wr at *
 refine region_put16 6 5 0 6 _ (fun i=>[EL 0,EL 121665,EL ((0) - (121665)),EL 121666,EL (iv (121666)),EL (((0) - (121665))*(iv (121666)))].getD i Fact.no) (((0) - (121665))*(iv (121666))) _ (by kernel_rfl) rfl rfl rfl (by kernel_rfl) rfl TR (by kernel_rfl) rfl ?_ ?_
 ·intro i hi
  obtain rfl | rfl | rfl | rfl | rfl | rfl:i=0∨i=1∨i=2∨i=3∨i=4∨i=5:=by omega
  ·exact step_small rfl 0 (by omega) rfl rfl
  ·exact step_small rfl 121665 (by omega) rfl rfl
  ·exact step_sub rfl 1 2 0 1 _ _ rfl (by kernel_rfl) (by kernel_rfl) rfl rfl rfl
  ·exact step_small rfl 121666 (by omega) rfl rfl
  ·exact step_inv rfl 4 3 _ rfl (by kernel_rfl) rfl rfl
  ·exact step_mul rfl 3 5 2 4 _ _ rfl (by kernel_rfl) (by kernel_rfl) rfl rfl rfl
 intro vs W W' n bq E T nb
 have NS:=nb w w.heap.size (nxt N n) (Nat.le_refl _)
 simp only [puts,Act.put,List.setIfInBounds_toArray,List.set_cons_succ,List.set_cons_zero]
 obtain ⟨t,rg,_,L,V⟩:=E
 clear N n bq nb T TR
 go_wp2
 exact bodyPost_ret (v := .agg (a16 t)) (results_cell_mid Tryz.results19 _ _ w.heap.size (a16 t).toList (.array 16 2) rfl rg Go.Proofs.YtnpolopcgmjmnaaGreatDoor.u50 rfl (by rw [a16_len];exact i50)) rfl ⟨t,rfl,L,V,NS⟩
theorem step_d {ops:Array Oper} {Q:Exit→Act→World→Prop} {md:Region.Mode} {F:Nat→Fact} {a0:Act} {w0:World} {i:Nat} {o:Oper} {ts:Array TypeId} (hi:ops[i]?=some o) (hop:o.op = .call { callee := .value (.func 19),args := #[],argTypes:=ts })
  (hFi:F i=EL dE):StepOk Tryz.prog md ops Q F a0 w0 i:=by
 refine step_call hi _ _ ts hop en_d fun a w _ _ _=>?_
 refine (l5D_any w).mono ?_
 rintro r w' ⟨s,rfl,L,V,hb⟩
 exact ⟨_,rfl,hb,by rw [hFi];exact ⟨s,rfl,L,V⟩⟩
end Go.Proofs.YtnpolopcgmjmnaaGreatDoor
namespace Go.Proofs.YtnpolopcgmjmnaaGreatDoor
set_option maxRecDepth 100000
open Go Go.RowKit
abbrev pObj:Obj := .cells [Value.slice none 0 0,.slice none 0 0].toArray 29
theorem there_p (W:World):(W.alloc pObj).there W.heap.size 0 2:=there_new W _ _
def NewPt (B:Nat) (w':World) (e:Ending) (xs ys:List Int):Prop :=
 ∃ (a a':Option Addr) (c c' g g':Nat),e = .returned (.agg #[.slice a xs.length c,.slice a' ys.length c'])∧Own w' g a .u8 xs∧Own w' g' a' .u8 ys∧B≤g∧B≤g'
set_option maxHeartbeats 1000000 in
theorem pointZero_any (w:World):Calls Tryz.prog 14 #[] w fun r w'=>NewPt w.heap.size w' r (fill (byt (0 % PP)) 32) (fill (byt (1 % PP)) 32)∧Below w.heap.size w w':=by
 go_enter Tryz.func14,Tryz.ntmps14
 go_upto_region 1 with fail
 change Code.wp _ _ _ _ (w.alloc pObj)
 have TR:=there_p w
 have N:Below w.heap.size w (w.alloc pObj):=(Below.refl _ _).alloc (Nat.le_refl _) _
 generalize w.alloc pObj=wr at *
 refine region_putP 5 4 0 5 _ (fun i=>[EL 0,RN wr (fun xs=>xs=fill (byt ((0) % PP)) 32),EL 1,RN wr (fun xs=>xs=fill (byt ((1) % PP)) 32),PT wr (fun xs ys=>xs=fill (byt ((0) % PP)) 32∧ys=fill (byt ((1) % PP)) 32)].getD i Fact.no) (fun xs ys=>xs=fill (byt ((0) % PP)) 32∧ys=fill (byt ((1) % PP)) 32) _ (by kernel_rfl) rfl rfl rfl (by kernel_rfl) rfl TR (by kernel_rfl) rfl ?_ ?_
 ·intro i hi
  obtain rfl | rfl | rfl | rfl | rfl:i=0∨i=1∨i=2∨i=3∨i=4:=by omega
  ·exact step_small rfl 0 (by omega) rfl rfl
  ·exact step_bytes rfl 1 0 _ rfl (by kernel_rfl) rfl rfl
  ·exact step_small rfl 1 (by omega) rfl rfl
  ·exact step_bytes rfl 3 2 _ rfl (by kernel_rfl) rfl rfl
  ·exact step_bp rfl 2 4 1 3 _ _ rfl (by kernel_rfl) (by kernel_rfl) rfl rfl rfl
 rintro vs W W' xs ys a a' c c' g g' n bq rg o1 o2 l1 l2 ⟨rfl,rfl⟩ nb
 have NS:=nb w w.heap.size (nxt N n) (Nat.le_refl _)
 simp only [puts,Act.put,List.setIfInBounds_toArray,List.set_cons_succ,List.set_cons_zero]
 have z1:=N.size
 clear N n bq nb TR
 go_wp2
 obtain ⟨fs,hfs⟩:=uP
 exact bodyPost_ret (v := .agg #[_,_]) (results_cell_mid Tryz.results14 _ _ w.heap.size _ _ rfl rg hfs rfl iP) rfl ⟨⟨a,a',c,c',g,g',rfl,o1,o2,by omega,by omega⟩,NS⟩
set_option maxHeartbeats 2000000 in
theorem l5Plain_any (w:World) (x y z:Nat→Int) (pX pY pZ:Int) (hx:L16 x∧s16 x 16 % PP=pX % PP) (hy:L16 y∧s16 y 16 % PP=pY % PP) (hz:L16 z∧s16 z 16 % PP=pZ % PP) :
  Calls Tryz.prog 12 #[ag48 x y z] w fun r w'=>NewPt w.heap.size w' r (fill (byt (pX*iv pZ % PP)) 32) (fill (byt (pY*iv pZ % PP)) 32)∧Below w.heap.size w w':=by
 show Calls Tryz.prog 12 #[.agg (c48 x y z).toArray] w _
 have H1:=elt3_new w 38 hx hy hz
 have m1:Below w.heap.size w (w.alloc (.cells (c48 x y z).toArray 38)):=(Below.refl _ _).alloc (Nat.le_refl _) _
 have s1:(w.alloc (.cells (c48 x y z).toArray 38)).heap.size=w.heap.size+1:=by simp
 obtain ⟨V1,hV1⟩:∃ V,V=(c48 x y z).toArray:=⟨_,rfl⟩
 rw [← hV1] at H1 m1 s1 ⊢
 clear hV1 hx hy hz
 go_enter Tryz.func12,Tryz.ntmps12
 go_upto_region 1 with fail
 generalize w.alloc (.cells V1 38)=wa at *
 change Code.wp _ _ _ _ (wa.alloc pObj)
 have TR:=there_p wa
 have m2:Below wa.heap.size wa (wa.alloc pObj):=(Below.refl _ _).alloc (Nat.le_refl _) _
 rw [s1] at TR
 have HP:=H1.up m2
 have N:=nxt m1 m2
 clear H1 m1 m2 s1
 generalize wa.alloc pObj=wr at *
 refine region_new16 4 3 2 3 6 _ (fun i=>[Fact.eq (.pointer (some ⟨w.heap.size,32,none⟩)),EL (pZ),EL (iv (pZ)),NB wr 16].getD i Fact.no) (iv (pZ)) (by kernel_rfl) rfl rfl rfl (by kernel_rfl) (by kernel_rfl) rfl rfl ?_ ?_
 ·intro i hi
  obtain rfl | rfl | rfl | rfl:i=0∨i=1∨i=2∨i=3:=by omega
  ·exact step_fld rfl 38 1 2 rfl (by kernel_rfl) _ _ rfl (fz48 _) rfl
  ·exact step_elf rfl 36 4 0 rfl Go.Proofs.YtnpolopcgmjmnaaGreatDoor.u50 i50 (by kernel_rfl) _ _ rfl _ HP.z rfl
  ·exact step_inv rfl 5 1 _ rfl (by kernel_rfl) rfl rfl
  ·exact step_new16 rfl rfl rfl
 intro vs1 q3 W1 v3 h3 n1 E3' T1
 replace HP:=HP.up n1
 replace N:=nxt N n1
 replace TR:=there_up (by omega) TR n1
 clear n1 T1
 simp only [puts,v3,Act.put,List.setIfInBounds_toArray,List.set_cons_succ,List.set_cons_zero]
 clear v3
 go_upto_region 2 with fail
 refine region_putP 11 10 2 17 _ (fun i=>[Fact.eq (.pointer (some ⟨w.heap.size,0,none⟩)),EL (pX),EL (iv (pZ)),EL ((pX)*(iv (pZ))),RN W1 (fun xs=>xs=fill (byt (((pX)*(iv (pZ))) % PP)) 32),Fact.eq (.pointer (some ⟨w.heap.size,16,none⟩)),EL (pY),EL (iv (pZ)),EL ((pY)*(iv (pZ))),RN W1 (fun xs=>xs=fill (byt (((pY)*(iv (pZ))) % PP)) 32),PT W1 (fun xs ys=>xs=fill (byt (((pX)*(iv (pZ))) % PP)) 32∧ys=fill (byt (((pY)*(iv (pZ))) % PP)) 32)].getD i Fact.no) (fun xs ys=>xs=fill (byt (((pX)*(iv (pZ))) % PP)) 32∧ys=fill (byt (((pY)*(iv (pZ))) % PP)) 32) _ (by kernel_rfl) rfl rfl rfl (by kernel_rfl) rfl TR (by kernel_rfl) rfl ?_ ?_
 ·intro i hi
  obtain rfl | rfl | rfl | rfl | rfl | rfl | rfl | rfl | rfl | rfl | rfl:i=0∨i=1∨i=2∨i=3∨i=4∨i=5∨i=6∨i=7∨i=8∨i=9∨i=10:=by omega
  ·exact step_fld rfl 38 1 0 rfl (by kernel_rfl) _ _ rfl (fx48 _) rfl
  ·exact step_elf rfl 36 7 0 rfl Go.Proofs.YtnpolopcgmjmnaaGreatDoor.u50 i50 (by kernel_rfl) _ _ rfl _ HP.x rfl
  ·exact step_el rfl 36 3 rfl Go.Proofs.YtnpolopcgmjmnaaGreatDoor.u50 i50 (by kernel_rfl) _ _ rfl _ E3' rfl
  ·exact step_mul rfl 8 9 1 2 _ _ rfl (by kernel_rfl) (by kernel_rfl) rfl rfl rfl
  ·exact step_bytes rfl 10 3 _ rfl (by kernel_rfl) rfl rfl
  ·exact step_fld rfl 38 1 1 rfl (by kernel_rfl) _ _ rfl (fy48 _) rfl
  ·exact step_elf rfl 36 12 5 rfl Go.Proofs.YtnpolopcgmjmnaaGreatDoor.u50 i50 (by kernel_rfl) _ _ rfl _ HP.y rfl
  ·exact step_el rfl 36 3 rfl Go.Proofs.YtnpolopcgmjmnaaGreatDoor.u50 i50 (by kernel_rfl) _ _ rfl _ E3' rfl
  ·exact step_mul rfl 13 14 6 7 _ _ rfl (by kernel_rfl) (by kernel_rfl) rfl rfl rfl
  ·exact step_bytes rfl 15 8 _ rfl (by kernel_rfl) rfl rfl
  ·exact step_bp rfl 11 16 4 9 _ _ rfl (by kernel_rfl) (by kernel_rfl) rfl rfl rfl
 rintro vs W W' xs ys a a' c c' g g' n bq rg o1 o2 l1 l2 ⟨rfl,rfl⟩ nb
 have NS:=nb w w.heap.size (nxt N n) (by omega)
 simp only [puts,Act.put,List.setIfInBounds_toArray,List.set_cons_succ,List.set_cons_zero]
 have z1:=N.size
 clear N n bq nb TR HP E3'
 go_wp2
 obtain ⟨fs,hfs⟩:=uP
 exact bodyPost_ret (v := .agg #[_,_]) (results_cell_mid Tryz.results12 _ _ (w.heap.size+1) _ _ rfl rg hfs rfl iP) rfl ⟨⟨a,a',c,c',g,g',rfl,o1,o2,by omega,by omega⟩,NS⟩
end Go.Proofs.YtnpolopcgmjmnaaGreatDoor
