import Derived.Test.YtnpolopcgmjmnaaGreatDoorVF45
import Derived.Laws.IdiomCopy
namespace Go.Proofs.YtnpolopcgmjmnaaGreatDoor
set_option maxRecDepth 100000
open Go.RowKit
def bigL (v:Int) (t:Nat):List Int:=(List.range t).map fun j=>v / 256 ^ (t - 1 - j) % 256
theorem bigL_len (v:Int) (t:Nat):(bigL v t).length=t:=by simp [bigL]
theorem bigL_get (v:Int) (t j:Nat) (h:j < t):(bigL v t).getD j 0=v / 256 ^ (t - 1 - j) % 256:=by simp [bigL,h]
theorem bigL_byt (v:Int) (t:Nat):Byt (bigL v t):=by
 intro j
 by_cases h:j < t
 ·rw [bigL_get v t j h]
  omega
 ·have : (bigL v t).getD j 0 = 0 := by
   rw [List.getD_eq_getElem?_getD,List.getElem?_eq_none (by rw [bigL_len];omega)]
   rfl
  rw [this]
  omega
def BigTo (v:Int) (t:Nat) (ys:List Int) (k:Nat):Prop:=ys.length=t∧∀ j,t - k≤j→j < t→ys.getD j 0=v / 256 ^ (t - 1 - j) % 256
theorem BigTo.zero (v:Int) (t:Nat):BigTo v t (List.replicate t 0) 0:=⟨by simp,fun j h h'=>absurd h (by omega)⟩
theorem BigTo.step {v:Int} {t:Nat} {ys:List Int} {k:Nat} (h:BigTo v t ys k) (hk:k < t):BigTo v t (ys.set (t - 1 - k) (v / 256 ^ k % 256)) (k+1):=by
 refine ⟨by simpa using h.1,fun j hj hj'=>?_⟩
 by_cases e:t - 1 - k=j
 ·subst e
  rw [getD_set_self _ _ _ (by rw [h.1];omega),show t - 1 - (t - 1 - k)=k by omega]
 ·rw [getD_set_ne _ _ _ _ e]
  exact h.2 j (by omega) hj'
theorem BigTo.all {v:Int} {t:Nat} {ys:List Int} (h:BigTo v t ys t):ys=bigL v t :=
 eq_of_getD (by rw [h.1,bigL_len]) (fun i hi=>by rw [h.1] at hi;rw [h.2 i (by omega) hi,bigL_get v t i hi])
theorem div256 (v:Int) (k:Nat):v / 256 ^ k / 256=v / 256 ^ (k+1):=by
 have h0:=p256_pos k
 rw [Int.ediv_ediv_of_nonneg (by omega),← Int.pow_succ]
theorem getD_apd_right (xs ys:List Int) (i:Nat) (h:xs.length≤i):(xs ++ ys).getD i 0=ys.getD (i - xs.length) 0:=by
 rw [List.getD_eq_getElem?_getD,List.getElem?_append_right h,← List.getD_eq_getElem?_getD]
theorem getD_apd_left (xs ys:List Int) (i:Nat) (h:i < xs.length):(xs ++ ys).getD i 0=xs.getD i 0:=by
 rw [List.getD_eq_getElem?_getD,List.getElem?_append_left h,← List.getD_eq_getElem?_getD]
def padZ (n:Int) (B t:Nat):Nat:=(((B:Int) - (n+1+(t:Int)) % (B:Int)) % (B:Int)).toNat
def padL (n:Int) (B t:Nat):List Int:=128 :: (List.replicate (padZ n B t) 0 ++ bigL (8*n) t)
theorem padL_len (n:Int) (B t:Nat):(padL n B t).length=1+padZ n B t+t:=by
 unfold padL
 simp [bigL_len]
 omega
theorem byt_cons {x:Int} {xs:List Int} (h0:0≤x) (h1:x < 256) (h:Byt xs):Byt (x :: xs):=by
 intro j
 cases j with
 | zero=>exact ⟨h0,h1⟩
 | succ j=>exact h j
theorem byt_apd {xs ys:List Int} (h:Byt xs) (k:Byt ys):Byt (xs ++ ys):=by
 intro j
 rw [List.getD_eq_getElem?_getD]
 by_cases c:j < xs.length
 ·rw [List.getElem?_append_left c, ← List.getD_eq_getElem?_getD]
  exact h j
 ·rw [List.getElem?_append_right (by omega), ← List.getD_eq_getElem?_getD]
  exact k _
theorem byt_rep0 (n:Nat):Byt (List.replicate n 0):=by
 intro j
 rw [List.getD_eq_getElem?_getD,List.getElem?_replicate]
 split <;> simp
theorem padL_byt (n:Int) (B t:Nat):Byt (padL n B t):=byt_cons (by omega) (by omega) (byt_apd (byt_rep0 _) (bigL_byt _ _))
def padA (n:Int) (B t:Nat):List Int:=if 0≤n∧n≤1099511627776 then padL n B t else []
theorem padZ_lt (n:Int) {B t:Nat} (h:0 < B):padZ n B t < B:=by
 unfold padZ
 have h0:=Int.emod_nonneg ((B:Int) - (n+1+(t:Int)) % (B:Int)) (show (B:Int)≠0 by omega)
 have h1:=Int.emod_lt_of_pos ((B:Int) - (n+1+(t:Int)) % (B:Int)) (show (0:Int) < (B:Int) by omega)
 omega
theorem padZ_go {n:Int} {B t k:Nat} (h:k≤padZ n B t) (hB:B=64∧t=8∨B=128∧t=16) (hn:(n+(1+(k:Int))+(t:Int)) % (B:Int)≠0):k+1≤padZ n B t:=by
 unfold padZ at *
 rcases hB with ⟨rfl,rfl⟩ | ⟨rfl,rfl⟩ <;> omega
theorem padZ_end {n:Int} {B t k:Nat} (h:k≤padZ n B t) (hB:B=64∧t=8∨B=128∧t=16) (hn:(n+(1+(k:Int))+(t:Int)) % (B:Int)=0):k=padZ n B t:=by
 unfold padZ at *
 rcases hB with ⟨rfl,rfl⟩ | ⟨rfl,rfl⟩ <;> omega
def padS (n:Int) (B t:Nat):Nat:=1+padZ n B t+t
theorem padS_64 (n:Int):((padS n 128 16:Nat):Int)=if 128 - n % 128 < 17 then 128 - n % 128+128 else 128 - n % 128:=by
 unfold padS padZ
 split <;> omega
def PadTo (n:Int) (s:Nat) (ys:List Int) (k:Nat):Prop :=
 ys.length=s∧ys.getD 0 0=128∧(∀ j,0 < j→j < s - k→ys.getD j 0=0)∧∀ j,s - k≤j→j < s→ys.getD j 0=8*n / 256 ^ (s - 1 - j) % 256
theorem PadTo.zero (n:Int) (s:Nat) (h:0 < s):PadTo n s ((List.replicate s 0).set 0 128) 0:=by
 refine ⟨by simp,?_,fun j h0 hj=>?_,fun j hj hj'=>absurd hj (by omega)⟩
 ·rw [getD_set_self _ _ _ (by simpa using h)]
 ·rw [getD_set_ne _ _ _ _ (by omega)]
  rw [List.getD_eq_getElem?_getD,List.getElem?_replicate]
  split <;> rfl
theorem PadTo.step {n:Int} {s:Nat} {ys:List Int} {k:Nat} (h:PadTo n s ys k) (hk:k+1 < s):PadTo n s (ys.set (s - 1 - k) (8*n / 256 ^ k % 256)) (k+1):=by
 obtain ⟨h1,h2,h3,h4⟩:=h
 refine ⟨by simpa using h1,?_,fun j h0 hj=>?_,fun j hj hj'=>?_⟩
 ·rw [getD_set_ne _ _ _ _ (by omega)]
  exact h2
 ·rw [getD_set_ne _ _ _ _ (by omega)]
  exact h3 j h0 (by omega)
 ·by_cases e : s - 1 - k = j
  ·subst e
   rw [getD_set_self _ _ _ (by rw [h1];omega),show s - 1 - (s - 1 - k)=k by omega]
  ·rw [getD_set_ne _ _ _ _ e]
   exact h4 j (by omega) hj'
theorem PadTo.all {n : Int} {B t : Nat} {ys : List Int} (h0 : 0 ≤ n) (h1 : n ≤ 1099511627776) (ht : t = 8 ∨ t = 16) (h : PadTo n (padS n B t) ys 8) : ys = padL n B t := by
  obtain ⟨a1,a2,a3,a4⟩:=h
  refine eq_of_getD (by rw [a1,padL_len];rfl) (fun i hi=>?_)
  rw [a1] at hi
  have hs:padS n B t=1+padZ n B t+t:=rfl
  unfold padL
  cases i with
  | zero=>rw [a2];rfl
  | succ i =>
    rw [List.getD_cons_succ]
    by_cases c:i < padZ n B t
    · rw [a3 _ (by omega) (by omega), List.getD_eq_getElem?_getD, List.getElem?_append_left (by simpa using c), List.getElem?_replicate, if_pos c]
      rfl
    · rw [getD_apd_right (List.replicate (padZ n B t) 0) _ i (by simpa using c), List.length_replicate, bigL_get _ _ _ (by omega)]
      by_cases d:padS n B t - 8≤i+1
      · rw [a4 _ d hi,show padS n B t - 1 - (i+1)=t - 1 - (i - padZ n B t) by omega]
      · rw [a3 _ (by omega) (by omega)]
        obtain ⟨e,he⟩:∃ e,t - 1 - (i - padZ n B t)=8+e:=⟨t - 1 - (i - padZ n B t) - 8,by omega⟩
        rw [he,Int.pow_add]
        have hp:=p256_pos e
        have hz:8*n / ((256:Int) ^ 8*256 ^ e)=0:=by
          refine Int.ediv_eq_zero_of_lt (by omega) ?_
          have:(256:Int) ^ 8*1≤256 ^ 8*256 ^ e:=Int.mul_le_mul_of_nonneg_left (by omega) (by decide)
          have:(256:Int) ^ 8=18446744073709551616:=by decide
          omega
        rw [hz]
        rfl
end Go.Proofs.YtnpolopcgmjmnaaGreatDoor
namespace Go.Proofs.YtnpolopcgmjmnaaGreatDoor
set_option maxRecDepth 100000
open Go.RowKit
def RowB (w:World) (base:Nat) (v:Value) (xs:List Int):Prop:=w.ownsRow base 5 1 v xs.length (xs.map (Value.int .u8))
theorem RowB.up {w w':World} {base:Nat} {v:Value} {xs:List Int} (h:RowB w base v xs) (hb:Below w.heap.size w w'):RowB w' base v xs:=by
 refine ⟨h.1,?_⟩
 rcases h.2 with h' | ⟨g,cap,cur,rfl,hbg,hg,hnc,hcm,hcs,ht⟩
 ·exact .inl h'
 ·exact .inr ⟨g,cap,cur,rfl,hbg,by rw [hb.block g ((Array.getElem?_eq_some_iff.1 hg).1)];exact hg,hnc,hcm,hcs,ht⟩
theorem RowB.only {w w':World} {base q:Nat} {v:Value} {xs:List Int} (h:RowB w base v xs) (hb:Only q w w') (hq:q < base):RowB w' base v xs:=by
 refine ⟨h.1,?_⟩
 rcases h.2 with h' | ⟨g,cap,cur,rfl,hbg,hg,hnc,hcm,hcs,ht⟩
 ·exact .inl h'
 ·exact .inr ⟨g,cap,cur,rfl,hbg,by rw [hb.block g (by omega)];exact hg,hnc,hcm,hcs,ht⟩
theorem RowB.base {w:World} {base base':Nat} {v:Value} {xs:List Int} (h:RowB w base v xs) (hb:base'≤base):RowB w base' v xs:=by
 refine ⟨h.1,?_⟩
 rcases h.2 with h' | ⟨g,cap,cur,rfl,hbg,hg,hnc,hcm,hcs,ht⟩
 ·exact .inl h'
 ·exact .inr ⟨g,cap,cur,rfl,by omega,hg,hnc,hcm,hcs,ht⟩
theorem RowB.own {w:World} {base:Nat} {v:Value} {xs:List Int} (h:RowB w base v xs) :
  ∃ (a:Option Addr) (c g:Nat),v = .slice a xs.length c∧Own w g a .u8 xs∧(a=none→c=0)∧xs.length≤c∧base≤g:=Own.of_ownsRow h
theorem append_any {P : Program} (w : World) (ty : TypeId) (i : TypeInfo) (ht : P.underlying 22 = some (.slice 5)) (hi : P.info? 5 = some i) (hz : i.zero = some (.int .u8 0)) (hsize : i.size = 1) (hby : i.bytes = 1)
    (base B:Nat) (v:Value) (xs:List Int) (hown:RowB w base v xs) (g:Nat) (a:Option Addr) (c:Nat) (us:List Int) (hr:Rd w g a .u8 us) (hc:a=none→c=0) (hl:xs.length+us.length≤1099511627776) (hB:B≤base) (hbase:base≤w.heap.size) :
    ∃ v' w',(Builtin.append_ #[22,22] ty #[v,.slice a us.length c]).run P w = .ok v' w'∧RowB w' base v' (xs ++ us)∧Below B w w':=by
  cases a with
  | none =>
    obtain rfl:us=[]:=by
      by_cases h0:0 < us.length
      · obtain ⟨off, h, _⟩ := hr h0
        simp at h
      · exact List.eq_nil_of_length_eq_zero (by omega)
    obtain rfl:=hc rfl
    exact ⟨v,w,run_append_owned_none (P:=P) (w:=w) base 22 ty 5 i 1 ht hi v _ _ hown,by rw [List.append_nil];exact hown,Below.refl _ _⟩
  | some ad =>
    have hcell:∀ j u,(us.map (Value.int .u8))[j]?=some u→w.cell? (ad.add j)=some u:=by
      intro j u hj
      have hjl:j < us.length:=by
        have:=(List.getElem?_eq_some_iff.1 hj).1
        simpa using this
      obtain ⟨off,ha,hcc⟩:=hr (by omega)
      simp only [Option.some.injEq] at ha
      subst ha
      rw [Addr.add_mid,hcc j hjl]
      simpa [hjl] using hj
    have hone:∀ u ∈ us.map (Value.int .u8),u.oneCell'=true:=by
      intro u hu
      obtain ⟨x,_,rfl⟩:=List.mem_map.1 hu
      rfl
    obtain ⟨v',w',h1,h2,h3,_⟩:=run_append_own (P:=P) w base 22 ty 5 i (.int .u8 0) 1 1 ht hi hz hsize hby rfl (by decide) v xs.length (xs.map (Value.int .u8)) hown ad us.length c (us.map (Value.int .u8)) (by simp) hcell hone (by unfold maxLen;omega) (by omega) hbase
    refine ⟨v',w',h1,?_,(Below.refl B w).grown h3 (by omega) (fun k hk=>by have:=(World.ownsRow.lt hown k hk).1;omega)⟩
    show w'.ownsRow base 5 1 v' (xs ++ us).length ((xs ++ us).map (Value.int .u8))
    rw [List.length_append,List.map_append]
    exact h2
theorem RowB.lit0 (w:World):RowB (w.alloc (.cells #[] 5)) w.heap.size (.slice (some ⟨w.heap.size,0,none⟩) 0 0) [] :=
 World.ownsRow_lit w #[] 0 (Nat.le_refl _) (by unfold maxLen;omega) (by simp)
theorem RowB.lit1 (w:World) (x:Int):RowB (w.alloc (.cells #[.int .u8 x] 5)) w.heap.size (.slice (some ⟨w.heap.size,0,none⟩) 1 1) [x] :=
 World.ownsRow_lit w #[.int .u8 x] 1 (Nat.le_refl _) (by unfold maxLen;omega) (by simp)
theorem RowB.rd {w:World} {base:Nat} {v:Value} {xs:List Int} (h:RowB w base v xs):∃ (a:Option Addr) (c g:Nat),v = .slice a xs.length c∧Rd w g a .u8 xs∧(a=none→c=0)∧xs.length≤c∧base≤g:=by
 obtain ⟨a,c,g,h1,h2,h3⟩:=h.own
 exact ⟨a,c,g,h1,h2.rd,h3⟩
theorem newRow_e (w:World) (k:IntKind):NewRow w.heap.size (w.alloc (.cells #[] 5)) (.returned (.slice (some ⟨w.heap.size,0,none⟩) 0 0)) k [] :=
 ⟨_,0,w.heap.size,rfl,Own.nil _ _ _ _,by simp,Nat.zero_le _,Nat.le_refl _⟩
theorem blk_lit1 (w:World) (k:IntKind) (e:TypeId) (x:Int):Blk (w.alloc (.cells #[.int k x] e)) w.heap.size k [x]:=by
 refine ⟨e,?_⟩
 show (w.heap.push _)[w.heap.size]?=_
 simp
end Go.Proofs.YtnpolopcgmjmnaaGreatDoor
namespace Go.Proofs.YtnpolopcgmjmnaaGreatDoor
set_option maxRecDepth 100000
open Go.RowKit
theorem p256_two (k:Nat):(256:Int) ^ k=2 ^ (8*k):=by rw [Int.pow_mul];rfl
set_option maxRecDepth 20000 in
set_option maxHeartbeats 1000000 in
theorem len64_64 (w:World):Calls Tryz.prog 126 #[.int .u64 18446744073709551615] w fun e w'=>e = .returned (.int .i64 64)∧w'=w:=by
 go_enter Tryz.func126,Tryz.ntmps126
 go_wp2
 go_ret
 exact ⟨by kernel_rfl,rfl⟩
set_option maxHeartbeats 1000000 in
theorem wordBits_64 (w:World):Calls Tryz.prog 114 #[] w fun e w'=>e = .returned (.int .i64 64)∧w'=w:=by
 go_enter Tryz.func114,Tryz.ntmps114
 go_wp2_with fail
 refine (len64_64 w).mono ?_
 rintro r w1 ⟨rfl,rfl⟩
 go_wp2
 go_ret
 exact ⟨rfl,rfl⟩
theorem wordSize_64 (w:World):Calls Tryz.prog 119 #[] w fun e w'=>e = .returned (.int .i64 8)∧w'=w:=by
 go_enter Tryz.func119,Tryz.ntmps119
 go_wp2_with fail
 refine (wordBits_64 w).mono ?_
 rintro r w1 ⟨rfl,rfl⟩
 go_wp2
 go_ret
 exact ⟨rfl,rfl⟩
theorem blockSize_64 (w:World):Calls Tryz.prog 115 #[] w fun e w'=>e = .returned (.int .i64 128)∧w'=w:=by
 go_enter Tryz.func115,Tryz.ntmps115
 go_wp2_with fail
 refine (wordSize_64 w).mono ?_
 rintro r w1 ⟨rfl,rfl⟩
 go_wp2
 go_ret
 exact ⟨rfl,rfl⟩
set_option maxHeartbeats 4000000 in
theorem padding_64 (w : World) (n : Int) (h0 : 0 ≤ n) (h1 : n ≤ 1099511627776) :
  Calls Tryz.prog 98 #[.int .i64 n] w fun e w'=>NewRow w.heap.size w' e .u8 (padL n 128 16)∧Below w.heap.size w w':=by
 obtain ⟨i0,hi,hz0,hz1,hz2⟩:=info_parts Tryz.info5
 have PS:=padS_64 n
 have PL:padS n 128 16=(padL n 128 16).length:=(padL_len n 128 16).symm
 have PA:=fun ys=>hide (fun h=>PadTo.all (n:=n) (B:=128) (t:=16) (ys:=ys) h0 h1 (by decide) h)
 have S1:17≤padS n 128 16∧padS n 128 16≤256:=by have:=padZ_lt n (B:=128) (t:=16) (by decide);unfold padS;omega
 have T:decide (128 - n % 128 < 17)=true∧128 - n % 128+128=(padS n 128 16:Int)∨decide (128 - n % 128 < 17)=false∧128 - n % 128=(padS n 128 16:Int):=by
  rw [PS]
  split
  ·left;simp_all
  ·right;simp_all
 generalize padL n 128 16=pl at *
 generalize padS n 128 16=s at *
 clear PS
 have KL:=hide PL
 clear PL
 have z0:0≤n % 128∧n % 128 < 128:=by omega
 rcases T with ⟨t1,t2⟩ | ⟨t1,t2⟩
 ·go_enter Tryz.func98, Tryz.ntmps98
  go_wp2_with fail
  refine (blockSize_64 w).mono ?_
  rintro r w1 ⟨rfl,rfl⟩
  go_wp2_with fail
  refine (blockSize_64 w1).mono ?_
  rintro r w2 ⟨rfl,rfl⟩
  go_wp2_with fail
  refine (wordSize_64 w2).mono ?_
  rintro r w3 ⟨rfl,rfl⟩
  go_wp2_with fail
  refine (blockSize_64 w3).mono ?_
  rintro r w4 ⟨rfl,rfl⟩
  go_wp2_with (at_make;refine wpList_make_full _ rfl _ _ 22 rfl w4.heap.size 5 i0 (.int .u8 0) 1 Tryz.underlying22 hi hz0 hz1 .i64 .i64 _ _ s rfl rfl rfl rfl (by rw [hz2];omega) (by unfold maxLen;omega) (Nat.le_refl _) ?_;intro w5 hown hgrow;have hB0:=Blk.of_made hown;have h00:=hB0.cell (i:=0) (by simp;omega);generalize (List.replicate s (0:Int)).getD 0 0=y0 at h00;have f00:=hB0.free 0;have s0:(0:Int) < (s:Int):=by omega)
  have hN0:Below w4.heap.size w4 w5:=(Below.refl _ _).grown hgrow (Nat.le_refl _) (by simp)
  have hB1:=hB0.store 0 128
  have hN1:Below w4.heap.size w4 (w5.setCell ⟨w4.heap.size,0,none⟩ (.int .u8 128)):=hN0.setCell (Nat.le_refl _) _
  have P0:=PadTo.zero n s (by omega)
  clear hown hgrow hB0 hN0
  go_loopw [23] (fun i wr=>∃ (k:Nat) (ys:List Int),k≤8∧i = .int .i64 k∧PadTo n s ys k∧Blk wr w4.heap.size .u8 ys∧Below w4.heap.size w4 wr) (fun i _=>8 - (intOf i).toNat)
  case atStart=>exact ⟨0,_,Nat.zero_le _,rfl,P0,hB1,hN1⟩
  case round =>
   obtain ⟨k,ys,hk,rfl,hT,hB,hN⟩:=hrel
   by_cases hlt:k < 8
   ·have R := hT.step (by omega)
    rw [p256_two k] at R
    obtain ⟨p,hp⟩:∃ p:Nat,s - 1 - k=p:=⟨_,rfl⟩
    rw [hp] at R
    have hl:p < ys.length:=by rw [hT.1];omega
    have p1:(s:Int) - 1 - (k:Int)=(p:Int):=by omega
    have p2:(p:Int) < (s:Int):=by omega
    have hcy:=hB.cell hl
    have hfy:=hB.free p
    have hB':=hB.store p (8*n / 2 ^ (8*k) % 256)
    have hN':Below w4.heap.size w4 (wr.setCell ⟨w4.heap.size,p,none⟩ (.int .u8 (8*n / 2 ^ (8*k) % 256))):=hN.setCell (Nat.le_refl _) _
    clear hB hN hT
    go_wp2
    go_roundw
    case rel=>exact ⟨k+1,_,by omega,by go_num,R,hB',hN'⟩
    case measure=>simp [intOf];omega
   ·obtain rfl : k = 8 := by omega
    have K:=hide ((PA ys).out hT)
    have LS:=hide hT.1
    clear hT PA
    go_wp2
    go_ret
    refine ⟨⟨_,s,w4.heap.size,by rw [KL.out];rfl,?_,by simp,by rw [← KL.out];exact Nat.le_refl _,Nat.le_refl _⟩,hN⟩
    rw [← K.out]
    exact hB.own0
 ·go_enter Tryz.func98, Tryz.ntmps98
  go_wp2_with fail
  refine (blockSize_64 w).mono ?_
  rintro r w1 ⟨rfl,rfl⟩
  go_wp2_with fail
  refine (blockSize_64 w1).mono ?_
  rintro r w2 ⟨rfl,rfl⟩
  go_wp2_with fail
  refine (wordSize_64 w2).mono ?_
  rintro r w3 ⟨rfl,rfl⟩
  go_wp2_with (at_make;refine wpList_make_full _ rfl _ _ 22 rfl w3.heap.size 5 i0 (.int .u8 0) 1 Tryz.underlying22 hi hz0 hz1 .i64 .i64 _ _ s rfl rfl rfl rfl (by rw [hz2];omega) (by unfold maxLen;omega) (Nat.le_refl _) ?_;intro w5 hown hgrow;have hB0:=Blk.of_made hown;have h00:=hB0.cell (i:=0) (by simp;omega);generalize (List.replicate s (0:Int)).getD 0 0=y0 at h00;have f00:=hB0.free 0;have s0:(0:Int) < (s:Int):=by omega)
  have hN0:Below w3.heap.size w3 w5:=(Below.refl _ _).grown hgrow (Nat.le_refl _) (by simp)
  have hB1:=hB0.store 0 128
  have hN1:Below w3.heap.size w3 (w5.setCell ⟨w3.heap.size,0,none⟩ (.int .u8 128)):=hN0.setCell (Nat.le_refl _) _
  have P0:=PadTo.zero n s (by omega)
  clear hown hgrow hB0 hN0
  go_loopw [23] (fun i wr=>∃ (k:Nat) (ys:List Int),k≤8∧i = .int .i64 k∧PadTo n s ys k∧Blk wr w3.heap.size .u8 ys∧Below w3.heap.size w3 wr) (fun i _=>8 - (intOf i).toNat)
  case atStart=>exact ⟨0,_,Nat.zero_le _,rfl,P0,hB1,hN1⟩
  case round =>
   obtain ⟨k,ys,hk,rfl,hT,hB,hN⟩:=hrel
   by_cases hlt:k < 8
   ·have R := hT.step (by omega)
    rw [p256_two k] at R
    obtain ⟨p,hp⟩:∃ p:Nat,s - 1 - k=p:=⟨_,rfl⟩
    rw [hp] at R
    have hl:p < ys.length:=by rw [hT.1];omega
    have p1:(s:Int) - 1 - (k:Int)=(p:Int):=by omega
    have p2:(p:Int) < (s:Int):=by omega
    have hcy:=hB.cell hl
    have hfy:=hB.free p
    have hB':=hB.store p (8*n / 2 ^ (8*k) % 256)
    have hN':Below w3.heap.size w3 (wr.setCell ⟨w3.heap.size,p,none⟩ (.int .u8 (8*n / 2 ^ (8*k) % 256))):=hN.setCell (Nat.le_refl _) _
    clear hB hN hT
    go_wp2
    go_roundw
    case rel=>exact ⟨k+1,_,by omega,by go_num,R,hB',hN'⟩
    case measure=>simp [intOf];omega
   ·obtain rfl : k = 8 := by omega
    have K:=hide ((PA ys).out hT)
    have LS:=hide hT.1
    clear hT PA
    go_wp2
    go_ret
    refine ⟨⟨_,s,w3.heap.size,by rw [KL.out];rfl,?_,by simp,by rw [← KL.out];exact Nat.le_refl _,Nat.le_refl _⟩,hN⟩
    rw [← K.out]
    exact hB.own0
end Go.Proofs.YtnpolopcgmjmnaaGreatDoor
namespace Go.Proofs.YtnpolopcgmjmnaaGreatDoor
set_option maxRecDepth 100000
open Go.RowKit
set_option maxHeartbeats 1000000 in
theorem l1Big_any (w:World) (v:Int) (t:Nat) (h0:0≤v) (h1:v < 9223372036854775808) (ht:t≤1048576) :
  Calls Tryz.prog 82 #[.int .i64 v,.int .i64 (t:Int)] w fun e w'=>e = .returned (.slice (some ⟨w.heap.size,0,none⟩) t t)∧Blk w' w.heap.size .u8 (bigL v t)∧Below w.heap.size w w':=by
 obtain ⟨i0,hi,hz0,hz1,hz2⟩:=info_parts Tryz.info5
 go_enter Tryz.func82,Tryz.ntmps82
 go_wp2_with (at_make;refine wpList_make_full _ rfl _ _ 22 rfl w.heap.size 5 i0 (.int .u8 0) 1 Tryz.underlying22 hi hz0 hz1 .i64 .i64 _ _ t rfl rfl rfl rfl (by rw [hz2];omega) (by unfold maxLen;omega) (Nat.le_refl _) ?_;intro w1 hown hgrow)
 have hB0:=Blk.of_made hown
 have hN0:Below w.heap.size w w1:=(Below.refl _ _).grown hgrow (Nat.le_refl _) (by simp)
 clear hown hgrow
 go_loopw [0,6] (fun q i wr=>∃ (k:Nat) (u j:Int) (ys:List Int),k≤t∧q = .int .i64 u∧i = .int .i64 j∧j+(k:Int)+1=(t:Int)∧0≤u∧u < 9223372036854775808∧Hid (u=v / 256 ^ k)∧BigTo v t ys k∧Blk wr w.heap.size .u8 ys∧Below w.heap.size w wr) (fun _ i _=>(intOf i+1).toNat)
 case atStart=>exact ⟨0,v,(t:Int) - 1,_,Nat.zero_le _,rfl,by go_num,by omega,h0,h1,by show _=_;simp,BigTo.zero v t,hB0,hN0⟩
 case round =>
  obtain ⟨k,u,j,ys,hk,rfl,rfl,hj,u0,u1,hu,hT,hB,hN⟩:=hrel
  by_cases hlt:0≤j
  ·obtain ⟨p, rfl⟩ := Int.eq_ofNat_of_zero_le hlt
   have R:=hT.step (by omega)
   rw [show t - 1 - k=p by omega,← hu.out] at R
   have hl:p < ys.length:=by rw [hT.1];omega
   have hcy:=hB.cell hl
   have hfy:=hB.free p
   have hB':=hB.store p (u % 256)
   have hN':Below w.heap.size w (wr.setCell ⟨w.heap.size,p,none⟩ (.int .u8 (u % 256))):=hN.setCell (Nat.le_refl _) _
   have hu':Hid (u / 256=v / 256 ^ (k+1)):=by show _=_;rw [hu.out,div256]
   have p1:(p:Int) < (t:Int):=by omega
   have HJ:=hide hj
   clear hB hN hu hT hj
   go_wp2
   go_roundw
   case rel=>exact ⟨k+1,u / 256,(p:Int) - 1,_,by have:=HJ.out;omega,by go_num,by go_num,by have:=HJ.out;omega,by omega,by omega,hu',R,hB',hN'⟩
   case measure=>simp [intOf]
  ·obtain rfl : k = t := by omega
   have K:=hide hT.all
   obtain rfl:j = -1:=by omega
   clear hj hu hT
   go_wp2
   go_ret
   exact ⟨rfl,by rw [← K.out];exact hB,hN⟩
def vlen (v:Value):Nat:=match v with | .slice _ n _=>n | _=>0
theorem vlen_slice (a:Option Addr) (n c:Nat):vlen (.slice a n c)=n:=rfl
set_option maxHeartbeats 2000000 in
theorem l6Pad_128 (w : World) (n : Int) (n0 : -9223372036854775808 ≤ n) (n1 : n < 9223372036854775808) :
  Calls Tryz.prog 63 #[.int .i64 n,.int .i64 128,.int .i64 16] w fun e w'=>NewRow w.heap.size w' e .u8 (padA n 128 16)∧Below w.heap.size w w':=by
 obtain ⟨i0,hi,hz0,hz1,hz2⟩:=info_parts Tryz.info5
 by_cases c0:0≤n
 ·by_cases c1 : n ≤ 1099511627776
  ·have t0 : decide (n < 0) = false := by simp; omega
   have t1:decide (1099511627776 < n)=false:=by simp;omega
   have K:Hid (padA n 128 16=128 :: (List.replicate (padZ n 128 16) 0 ++ bigL (8*n) 16)):=by show _=_;unfold padA;rw [if_pos ⟨c0,c1⟩];rfl
   have ZL:=padZ_lt n (B:=128) (t:=16) (by decide)
   have hal:Below w.heap.size w (w.alloc (.cells #[.int .u8 128] 5)):=(Below.refl _ _).alloc (Nat.le_refl _) _
   go_enter Tryz.func63,Tryz.ntmps63
   go_wp2
   go_loopw [7] (fun v wr=>∃ (k c:Nat) (a:Option Addr),v = .slice a (k+1) c∧k≤padZ n 128 16∧RowB wr w.heap.size v (128 :: List.replicate k 0)∧Below w.heap.size w wr) (fun v _=>padZ n 128 16+1 - vlen v)
   case atStart=>exact ⟨0,1,_,rfl,Nat.zero_le _,RowB.lit1 w 128,hal⟩
   case round =>
    obtain ⟨k,c,a,rfl,hk,hown,hN⟩:=hrel
    by_cases hlt:(n+(1+(k:Int))+16) % 128=0
    ·obtain rfl : k = padZ n 128 16 := padZ_end hk (by simp) hlt
     have u1:(n+((padZ n 128 16:Nat)+1:Int)+16) % 128=0:=by rw [← hlt,Int.add_comm 1]
     have BG:=hide (l1Big_any wr (8*n) 16 (by omega) (by omega) (by decide))
     have LL:=hide (bigL_len (8*n) 16)
     clear hlt hk
     generalize bigL (8*n) 16=bs at *
     generalize padZ n 128 16=z at *
     go_wp2_with fail
     refine BG.out.mono ?_
     rintro r w1 ⟨rfl,B1,n1⟩
     have N1:=nxt hN n1
     have o1:=hown.up n1
     have hap:=append_any (P:=Tryz.prog) w1 22 i0 Tryz.underlying22 hi hz0 hz1 hz2 w.heap.size w.heap.size _ _ o1 _ _ 16 bs B1.own0.rd (by simp) (by rw [LL.out];simp;omega) (Nat.le_refl _) N1.size
     rw [LL.out] at hap
     obtain ⟨v',w2,hap,o2,n2⟩:=hap
     have N2:=N1.trans n2
     clear BG hown o1 B1 n1 n2 N1
     go_wp2_with (at_builtin;refine Lib.wpList_append_run _ rfl _ _ 22 22 rfl _ _ rfl rfl _ _ hap ?_)
     rw [List.cons_append,← K.out] at o2
     obtain ⟨a3,c3,g3,rfl,o3,p3,q3,r3⟩:=o2.own
     clear hap K
     go_wp2
     go_ret
     exact ⟨⟨a3,c3,g3,rfl,o3,p3,q3,r3⟩,N2⟩
    ·have hk' := padZ_go hk (by simp) hlt
     have u1:((n+((k:Int)+1)+16) % 128 == 0)=false:=by rw [Int.add_comm (k:Int) 1];simpa using hlt
     have na:Below wr.heap.size wr (wr.alloc (.cells #[.int .u8 0] 5)):=(Below.refl _ _).alloc (Nat.le_refl _) _
     have Na:=nxt hN na
     have o1:=hown.up na
     have B1:Blk (wr.alloc (.cells #[.int .u8 0] 5)) wr.heap.size .u8 [0]:=blk_lit1 wr .u8 5 0
     obtain ⟨v',w2,hap,o2,n2⟩:=append_any (P:=Tryz.prog) (wr.alloc (.cells #[.int .u8 0] 5)) 22 i0 Tryz.underlying22 hi hz0 hz1 hz2 w.heap.size w.heap.size _ _ o1 _ _ 1 [0] B1.own0.rd (by simp) (by simp;omega) (Nat.le_refl _) Na.size
     have N2:=Na.trans n2
     rw [List.cons_append,← List.replicate_succ'] at o2
     obtain ⟨a3,c3,g3,rfl,-,p3,q3,r3⟩:=o2.own
     simp only [List.length_cons,List.length_replicate,List.length_nil] at hap o2
     clear hown o1 na Na B1 n2 hlt hk
     go_wp2_with (at_builtin;refine Lib.wpList_append_run _ rfl _ _ 22 22 rfl _ _ rfl rfl _ _ hap ?_)
     clear hap
     go_wp2
     go_roundw
     case rel=>exact ⟨k+1,c3,a3,rfl,hk',o2,N2⟩
     case measure=>simp only [vlen_slice];omega
  ·have t0 : decide (n < 0) = false := by simp; omega
   have t1:decide (1099511627776 < n)=true:=by simp;omega
   have hal:Below w.heap.size w (w.alloc (.cells #[] 5)):=(Below.refl _ _).alloc (Nat.le_refl _) _
   have K:Hid (padA n 128 16=[]):=by show _=_;unfold padA;rw [if_neg (by omega)]
   go_enter Tryz.func63,Tryz.ntmps63
   go_wp2
   go_ret
   rw [K.out]
   exact ⟨newRow_e _ _,hal⟩
 ·have t0 : decide (n < 0) = true := by simp; omega
  have hal:Below w.heap.size w (w.alloc (.cells #[] 5)):=(Below.refl _ _).alloc (Nat.le_refl _) _
  have K:Hid (padA n 128 16=[]):=by show _=_;unfold padA;rw [if_neg (by omega)]
  go_enter Tryz.func63,Tryz.ntmps63
  go_wp2
  go_ret
  rw [K.out]
  exact ⟨newRow_e _ _,hal⟩
theorem LongPad_any (w:World) (n:Int) (n0 : -9223372036854775808≤n) (n1:n < 9223372036854775808) :
  Calls Tryz.prog 38 #[.int .i64 n] w fun e w'=>NewRow w.heap.size w' e .u8 (padA n 128 16)∧Below w.heap.size w w':=by
 go_enter Tryz.func38,Tryz.ntmps38
 go_wp2_with fail
 refine (l6Pad_128 w n n0 n1).mono ?_
 rintro r w1 ⟨⟨a1,c1,g1,rfl,o1,p1,q1,r1⟩,N1⟩
 go_wp2
 go_ret
 exact ⟨⟨a1,c1,g1,rfl,o1,p1,q1,r1⟩,N1⟩
end Go.Proofs.YtnpolopcgmjmnaaGreatDoor
namespace Go.Proofs.YtnpolopcgmjmnaaGreatDoor
set_option maxRecDepth 100000
open Go Go.RowKit
end Go.Proofs.YtnpolopcgmjmnaaGreatDoor
namespace Go.Proofs.YtnpolopcgmjmnaaGreatDoor
set_option maxRecDepth 100000
open Go Go.RowKit
end Go.Proofs.YtnpolopcgmjmnaaGreatDoor
namespace Go.Proofs.YtnpolopcgmjmnaaGreatDoor
set_option maxRecDepth 100000
open Go.RowKit
def stLh:List Int:=[7640891576956012808,13503953896175478587,4354685564936845355,11912009170470909681,5840696475078001361,11170449401992604703,2270897969802886507,6620516959819538809]
def kL:List Int:=[4794697086780616226,8158064640168781261,13096744586834688815,16840607885511220156,4131703408338449720,6480981068601479193,10538285296894168987,12329834152419229976,15566598209576043074,1334009975649890238,2608012711638119052,6128411473006802146,8268148722764581231,9286055187155687089,11230858885718282805,13951009754708518548,16472876342353939154,17275323862435702243,1135362057144423861,2597628984639134821,3308224258029322869,5365058923640841347,6679025012923562964,8573033837759648693,10970295158949994411,12119686244451234320,12683024718118986047,13788192230050041572,14330467153632333762,15395433587784984357,489312712824947311,1452737877330783856,2861767655752347644,3322285676063803686,5560940570517711597,5996557281743188959,7280758554555802590,8532644243296465576,9350256976987008742,10552545826968843579,11727347734174303076,12113106623233404929,14000437183269869457,14369950271660146224,15101387698204529176,15463397548674623760,17586052441742319658,1182934255886127544,1847814050463011016,2177327727835720531,2830643537854262169,3796741975233480872,4115178125766777443,5681478168544905931,6601373596472566643,7507060721942968483,8399075790359081724,8693463985226723168,9568029438360202098,10144078919501101548,10430055236837252648,11840083180663258601,13761210420658862357,14299343276471374635,14566680578165727644,15097957966210449927,16922976911328602910,17689382322260857208,500013540394364858,748580250866718886,1242879168328830382,1977374033974150939,2944078676154940804,3659926193048069267,4368137639120453308,4836135668995329356,5532061633213252278,6448918945643986474,6902733635092675308,7801388544844847127]
theorem kL_lt:∀ i:Fin 80,0≤kL.getD i.val 0∧kL.getD i.val 0 < 18446744073709551616:=by decide +kernel
theorem stL_lt:∀ i:Fin 8,0≤stLh.getD i.val 0∧stLh.getD i.val 0 < 18446744073709551616:=by decide +kernel
def HasT (W:World) (g:Nat) (l:List Int):Prop:=∀ k,k < l.length→W.cell? ⟨g,k,none⟩=some (.int .u64 (l.getD k 0))
theorem HasT.up {w w':World} {g:Nat} {l:List Int} (h:HasT w g l) (n:Below w.heap.size w w'):HasT w' g l:=fun k hk =>
 (World.cell?_of_block (a:=⟨g,k,none⟩) (n.block g (block_lt_of_cell (h k hk)))).trans (h k hk)
theorem HasT.of_block {w w':World} {g:Nat} {l:List Int} (h:HasT w g l) (hb:w'.heap[g]?=w.heap[g]?):HasT w' g l:=fun k hk=>(World.cell?_of_block (a:=⟨g,k,none⟩) hb).trans (h k hk)
structure S8 where
 a:Int
 b:Int
 c:Int
 d:Int
 e:Int
 f:Int
 g:Int
 h:Int
def ag8 (k:IntKind) (s:S8):Value := .agg #[.int k s.a,.int k s.b,.int k s.c,.int k s.d,.int k s.e,.int k s.f,.int k s.g,.int k s.h]
def S8.l (s:S8):List Int:=[s.a,s.b,s.c,s.d,s.e,s.f,s.g,s.h]
theorem S8.l_len (s:S8):s.l.length=8:=rfl
end Go.Proofs.YtnpolopcgmjmnaaGreatDoor
namespace Go.Proofs.YtnpolopcgmjmnaaGreatDoor
set_option maxRecDepth 100000
open Go Go.RowKit
end Go.Proofs.YtnpolopcgmjmnaaGreatDoor
namespace Go.Proofs.YtnpolopcgmjmnaaGreatDoor
set_option maxRecDepth 100000
open Go Go.RowKit
def Wd64 (x:Int):Prop:=0≤x∧x < 18446744073709551616
def rr64 (x:Int) (n:Nat):Int:=bits BinOp.or IntKind.u64 (x / 2 ^ n) (x*2 ^ (64 - n) % 18446744073709551616)
def ng64 (x:Int):Int:=bits BinOp.xor IntKind.u64 IntKind.u64.max x
def sg064 (x:Int):Int:=bits BinOp.xor IntKind.u64 (bits BinOp.xor IntKind.u64 (rr64 x 1) (rr64 x 8)) (x / 128)
def sg164 (x:Int):Int:=bits BinOp.xor IntKind.u64 (bits BinOp.xor IntKind.u64 (rr64 x 19) (rr64 x 61)) (x / 64)
def gg064 (x:Int):Int:=bits BinOp.xor IntKind.u64 (bits BinOp.xor IntKind.u64 (rr64 x 28) (rr64 x 34)) (rr64 x 39)
def gg164 (x:Int):Int:=bits BinOp.xor IntKind.u64 (bits BinOp.xor IntKind.u64 (rr64 x 14) (rr64 x 18)) (rr64 x 41)
def ch64 (e f g:Int):Int:=bits BinOp.xor IntKind.u64 (bits BinOp.and IntKind.u64 e f) (bits BinOp.and IntKind.u64 (ng64 e) g)
def mj64 (a b c:Int):Int:=bits BinOp.xor IntKind.u64 (bits BinOp.xor IntKind.u64 (bits BinOp.and IntKind.u64 a b) (bits BinOp.and IntKind.u64 a c)) (bits BinOp.and IntKind.u64 b c)
theorem mod_wd64 (x:Int):Wd64 (x % 18446744073709551616):=⟨by omega,by omega⟩
theorem max64:IntKind.u64.max=18446744073709551615:=by decide
theorem ch_same64 {e f g:Int} (he:Wd64 e) (hf:Wd64 f) (hg:Wd64 g) :
  bits BinOp.or IntKind.u64 (bits BinOp.and IntKind.u64 e f) (bits BinOp.and IntKind.u64 (ng64 e) g)=ch64 e f g:=by
 unfold ch64 ng64
 rw [max64]
 obtain ⟨a,rfl⟩:=Int.eq_ofNat_of_zero_le he.1
 obtain ⟨b,rfl⟩:=Int.eq_ofNat_of_zero_le hf.1
 obtain ⟨c,rfl⟩:=Int.eq_ofNat_of_zero_le hg.1
 have h1:a < 18446744073709551616:=by have:=he.2;omega
 have h2:b < 18446744073709551616:=by have:=hf.2;omega
 have h3:c < 18446744073709551616:=by have:=hg.2;omega
 have hx:18446744073709551615 ^^^ a < 2 ^ 64:=Nat.xor_lt_two_pow (by omega) (by omega)
 have hy:a &&& b < 2 ^ 64:=Nat.and_lt_two_pow _ (by omega)
 have hz:(18446744073709551615 ^^^ a) &&& c < 2 ^ 64:=Nat.and_lt_two_pow _ (by omega)
 rw [show (18446744073709551615:Int)=((18446744073709551615:Nat):Int) from rfl,u64_xor_nat 18446744073709551615 a (by omega) h1,u64_and_nat a b h1 h2,u64_and_nat _ c (by omega) h3,u64_or_nat _ _ (by omega) (by omega),u64_xor_nat _ _ (by omega) (by omega)]
 congr 1
 apply Nat.eq_of_testBit_eq
 intro i
 simp only [Nat.testBit_or,Nat.testBit_xor,Nat.testBit_and]
 by_cases ci:i < 64
 ·have : Nat.testBit 18446744073709551615 i = true := by rw [show (18446744073709551615 : Nat) = 2 ^ 64 - 1 from rfl, Nat.testBit_two_pow_sub_one]; simpa using ci
  rw [this]
  cases a.testBit i <;> cases b.testBit i <;> cases c.testBit i <;> rfl
 ·have : a.testBit i = false := Nat.testBit_lt_two_pow (Nat.lt_of_lt_of_le h1 (Nat.pow_le_pow_right (n := 2) (by decide) (show 64 ≤ i by omega)))
  rw [this]
  cases Nat.testBit 18446744073709551615 i <;> cases b.testBit i <;> cases c.testBit i <;> rfl
theorem mj_same64 {a b c:Int} (ha:Wd64 a) (hb:Wd64 b) (hc:Wd64 c) :
  bits BinOp.or IntKind.u64 (bits BinOp.or IntKind.u64 (bits BinOp.and IntKind.u64 a b) (bits BinOp.and IntKind.u64 a c)) (bits BinOp.and IntKind.u64 b c)=mj64 a b c:=by
 unfold mj64
 obtain ⟨a,rfl⟩:=Int.eq_ofNat_of_zero_le ha.1
 obtain ⟨b,rfl⟩:=Int.eq_ofNat_of_zero_le hb.1
 obtain ⟨c,rfl⟩:=Int.eq_ofNat_of_zero_le hc.1
 have h1:a < 18446744073709551616:=by have:=ha.2;omega
 have h2:b < 18446744073709551616:=by have:=hb.2;omega
 have h3:c < 18446744073709551616:=by have:=hc.2;omega
 have hx:a &&& b < 2 ^ 64:=Nat.and_lt_two_pow _ (by omega)
 have hy:a &&& c < 2 ^ 64:=Nat.and_lt_two_pow _ (by omega)
 have hz:b &&& c < 2 ^ 64:=Nat.and_lt_two_pow _ (by omega)
 have o1:a &&& b ||| a &&& c < 2 ^ 64:=Nat.or_lt_two_pow hx hy
 have o2:a &&& b ^^^ a &&& c < 2 ^ 64:=Nat.xor_lt_two_pow hx hy
 rw [u64_and_nat a b h1 h2,u64_and_nat a c h1 h3,u64_and_nat b c h2 h3,u64_or_nat _ _ (by omega) (by omega),u64_xor_nat _ _ (by omega) (by omega),u64_or_nat _ _ (by omega) (by omega),u64_xor_nat _ _ (by omega) (by omega)]
 congr 1
 apply Nat.eq_of_testBit_eq
 intro i
 simp only [Nat.testBit_or,Nat.testBit_xor,Nat.testBit_and]
 cases a.testBit i <;> cases b.testBit i <;> cases c.testBit i <;> rfl
set_option maxHeartbeats 1000000 in
theorem right_64 (w:World) (x:Int) (h:Wd64 x) (n:Nat) (h0:0 < n) (h1:n < 64):Calls Tryz.prog 65 #[.int .u64 x,.int .u64 (n:Int)] w fun e w'=>e = .returned (.int .u64 (rr64 x n))∧w'=w:=by
 obtain ⟨x0,x1⟩:=h
 go_enter Tryz.func65,Tryz.ntmps65
 go_wp2
 go_ret
 exact ⟨rfl,rfl⟩
set_option maxHeartbeats 1000000 in
theorem turnRight_64 (w:World) (x:Int) (h:Wd64 x) (n:Nat) (h0:0 < n) (h1:n < 64):Calls Tryz.prog 139 #[.int .u64 x,.int .i64 (n:Int)] w fun e w'=>e = .returned (.int .u64 (rr64 x n))∧∃ m,w'=w.drewN m:=by
 obtain ⟨x0,x1⟩:=h
 go_enter Tryz.func139,Tryz.ntmps139
 go_wp2_with fail
 go_quiet ((go_at_call 114;exact Calls.quiet_of_same (wordBits_64 _)))
 go_wp2
 go_ret
 exact ⟨rfl,_,rfl⟩
theorem choice_64 (w:World) (e f g:Int) (he:Wd64 e) (hf:Wd64 f) (hg:Wd64 g):Calls Tryz.prog 130 #[.int .u64 e,.int .u64 f,.int .u64 g] w fun r w'=>r = .returned (.int .u64 (ch64 e f g))∧w'=w:=by
 obtain ⟨e0,e1⟩:=he
 obtain ⟨f0,f1⟩:=hf
 obtain ⟨g0,g1⟩:=hg
 go_enter Tryz.func130,Tryz.ntmps130
 go_wp2
 go_ret
 exact ⟨rfl,rfl⟩
theorem majority_64 (w:World) (e f g:Int) (he:Wd64 e) (hf:Wd64 f) (hg:Wd64 g):Calls Tryz.prog 132 #[.int .u64 e,.int .u64 f,.int .u64 g] w fun r w'=>r = .returned (.int .u64 (mj64 e f g))∧w'=w:=by
 obtain ⟨e0,e1⟩:=he
 obtain ⟨f0,f1⟩:=hf
 obtain ⟨g0,g1⟩:=hg
 go_enter Tryz.func132,Tryz.ntmps132
 go_wp2
 go_ret
 exact ⟨rfl,rfl⟩
theorem hasLong_64 (w:World):Calls Tryz.prog 136 #[] w fun e w'=>e = .returned (.bool true)∧w'=w:=by
 go_enter Tryz.func136,Tryz.ntmps136
 go_wp2_with fail
 refine (wordBits_64 w).mono ?_
 rintro r w1 ⟨rfl,rfl⟩
 go_wp2
 go_ret
 exact ⟨rfl,rfl⟩
theorem stepsOf_64 (w:World):Calls Tryz.prog 127 #[] w fun e w'=>e = .returned (.int .i64 80)∧w'=w:=by
 go_enter Tryz.func127,Tryz.ntmps127
 go_wp2_with fail
 refine (hasLong_64 w).mono ?_
 rintro r w1 ⟨rfl,rfl⟩
 go_wp2
 go_ret
 exact ⟨rfl,rfl⟩
theorem upperBits_64 (w:World) (x:Int) (_h0:0≤x) (_h1:x < 18446744073709551616):Calls Tryz.prog 96 #[.int .u64 x] w fun e w'=>e = .returned (.int .u64 x)∧w'=w:=by
 go_enter Tryz.func96,Tryz.ntmps96
 go_wp2_with fail
 refine (wordBits_64 w).mono ?_
 rintro r w1 ⟨rfl,rfl⟩
 go_wp2
 go_ret
 exact ⟨rfl,rfl⟩
set_option maxHeartbeats 1000000 in
theorem smallMix0_64 (w:World) (x:Int) (h:Wd64 x):Calls Tryz.prog 138 #[.int .u64 x] w fun e w'=>e = .returned (.int .u64 (sg064 x))∧∃ m,w'=w.drewN m:=by
 have T0:=fun w=>hide (turnRight_64 w x h 1 (by decide) (by decide))
 have T1:=fun w=>hide (turnRight_64 w x h 8 (by decide) (by decide))
 obtain ⟨x0,x1⟩:=h
 go_enter Tryz.func138,Tryz.ntmps138
 go_wp2_with fail
 refine (hasLong_64 w).mono ?_
 rintro r w0 ⟨rfl,rfl⟩
 go_wp2_with fail
 refine (T0 w0).out.mono ?_
 rintro r w1 ⟨rfl,n1,rfl⟩
 go_wp2_with fail
 refine (T1 (w0.drewN n1)).out.mono ?_
 rintro r w2 ⟨rfl,n2,rfl⟩
 go_wp2
 go_ret
 exact ⟨rfl,_,rfl⟩
set_option maxHeartbeats 1000000 in
theorem smallMix1_64 (w:World) (x:Int) (h:Wd64 x):Calls Tryz.prog 137 #[.int .u64 x] w fun e w'=>e = .returned (.int .u64 (sg164 x))∧∃ m,w'=w.drewN m:=by
 have T0:=fun w=>hide (turnRight_64 w x h 19 (by decide) (by decide))
 have T1:=fun w=>hide (turnRight_64 w x h 61 (by decide) (by decide))
 obtain ⟨x0,x1⟩:=h
 go_enter Tryz.func137,Tryz.ntmps137
 go_wp2_with fail
 refine (hasLong_64 w).mono ?_
 rintro r w0 ⟨rfl,rfl⟩
 go_wp2_with fail
 refine (T0 w0).out.mono ?_
 rintro r w1 ⟨rfl,n1,rfl⟩
 go_wp2_with fail
 refine (T1 (w0.drewN n1)).out.mono ?_
 rintro r w2 ⟨rfl,n2,rfl⟩
 go_wp2
 go_ret
 exact ⟨rfl,_,rfl⟩
set_option maxHeartbeats 1000000 in
theorem greatMix0_64 (w:World) (x:Int) (h:Wd64 x):Calls Tryz.prog 131 #[.int .u64 x] w fun e w'=>e = .returned (.int .u64 (gg064 x))∧∃ m,w'=w.drewN m:=by
 have T0:=fun w=>hide (turnRight_64 w x h 28 (by decide) (by decide))
 have T1:=fun w=>hide (turnRight_64 w x h 34 (by decide) (by decide))
 have T2:=fun w=>hide (turnRight_64 w x h 39 (by decide) (by decide))
 obtain ⟨x0,x1⟩:=h
 go_enter Tryz.func131,Tryz.ntmps131
 go_wp2_with fail
 refine (hasLong_64 w).mono ?_
 rintro r w0 ⟨rfl,rfl⟩
 go_wp2_with fail
 refine (T0 w0).out.mono ?_
 rintro r w1 ⟨rfl,n1,rfl⟩
 go_wp2_with fail
 refine (T1 (w0.drewN n1)).out.mono ?_
 rintro r w2 ⟨rfl,n2,rfl⟩
 go_wp2_with fail
 refine (T2 _).out.mono ?_
 rintro r w3 ⟨rfl,n3,rfl⟩
 go_wp2
 go_ret
 exact ⟨rfl,_,rfl⟩
set_option maxHeartbeats 1000000 in
theorem greatMix1_64 (w:World) (x:Int) (h:Wd64 x):Calls Tryz.prog 129 #[.int .u64 x] w fun e w'=>e = .returned (.int .u64 (gg164 x))∧∃ m,w'=w.drewN m:=by
 have T0:=fun w=>hide (turnRight_64 w x h 14 (by decide) (by decide))
 have T1:=fun w=>hide (turnRight_64 w x h 18 (by decide) (by decide))
 have T2:=fun w=>hide (turnRight_64 w x h 41 (by decide) (by decide))
 obtain ⟨x0,x1⟩:=h
 go_enter Tryz.func129,Tryz.ntmps129
 go_wp2_with fail
 refine (hasLong_64 w).mono ?_
 rintro r w0 ⟨rfl,rfl⟩
 go_wp2_with fail
 refine (T0 w0).out.mono ?_
 rintro r w1 ⟨rfl,n1,rfl⟩
 go_wp2_with fail
 refine (T1 (w0.drewN n1)).out.mono ?_
 rintro r w2 ⟨rfl,n2,rfl⟩
 go_wp2_with fail
 refine (T2 _).out.mono ?_
 rintro r w3 ⟨rfl,n3,rfl⟩
 go_wp2
 go_ret
 exact ⟨rfl,_,rfl⟩
end Go.Proofs.YtnpolopcgmjmnaaGreatDoor
namespace Go.Proofs.YtnpolopcgmjmnaaGreatDoor
set_option maxRecDepth 100000
open Go Go.RowKit
def extv64 (y0 y2 y7 y15:Int):Int:=(y0+(((sg164 y2+y7) % 18446744073709551616)+sg064 y15) % 18446744073709551616) % 18446744073709551616
set_option maxHeartbeats 4000000 in
theorem extend_64 (w:World) (q i0 p0 p2 p7 p15:Nat) (y0 y2 y7 y15:Int) (s2:IntKind.i64.wrap ((i0:Int) - 2)=(i0:Int) - 2) (s7:IntKind.i64.wrap ((i0:Int) - 7)=(i0:Int) - 7) (s15:IntKind.i64.wrap ((i0:Int) - 15)=(i0:Int) - 15)
  (m0:(i0:Int).tmod 16=(p0:Int)) (m2:((i0:Int) - 2).tmod 16=(p2:Int)) (m7:((i0:Int) - 7).tmod 16=(p7:Int)) (m15:((i0:Int) - 15).tmod 16=(p15:Int))
  (l0:(p0:Int) < 16) (l2:(p2:Int) < 16) (l7:(p7:Int) < 16) (l15:(p15:Int) < 16) (h2:Wd64 y2) (h15:Wd64 y15)
  (c0:∀ w',Below w.heap.size w w'→w'.cell? ⟨q,p0,none⟩=some (.int .u64 y0)) (c2:∀ w',Below w.heap.size w w'→w'.cell? ⟨q,p2,none⟩=some (.int .u64 y2)) (c7:∀ w',Below w.heap.size w w'→w'.cell? ⟨q,p7,none⟩=some (.int .u64 y7)) (c15:∀ w',Below w.heap.size w w'→w'.cell? ⟨q,p15,none⟩=some (.int .u64 y15))
  (f0:∀ w',Below w.heap.size w w'→w'.frozen? ⟨q,p0,none⟩=false) :
  Calls Tryz.prog 128 #[.pointer (some ⟨q,0,none⟩),.int .i64 (i0:Int)] w fun e w'=>e = .returned (.tuple #[])∧∃ w1,Below w.heap.size w w1∧w'=w1.setCell ⟨q,p0,none⟩ (.int .u64 (extv64 y0 y2 y7 y15)):=by
 go_enter Tryz.func128,Tryz.ntmps128
 go_wp2_with fail
 refine region_store 34 _ (fun i=>[Fact.eq (.pointer (some ⟨q,0,none⟩)),Fact.eq (.int .i64 (i0:Int)),Fact.eq (.int .i64 (p0:Int)),Fact.eq (.pointer (some ⟨q,0,none⟩)),Fact.eq (.pointer (some ⟨q,p0,none⟩)),Fact.eq (.int .u64 (y0)),Fact.eq (.pointer (some ⟨q,0,none⟩)),Fact.eq (.int .i64 (i0:Int)),Fact.eq (.int .i64 ((i0:Int) - 2)),Fact.eq (.int .i64 (p2:Int)),Fact.eq (.pointer (some ⟨q,0,none⟩)),Fact.eq (.pointer (some ⟨q,p2,none⟩)),Fact.eq (.int .u64 (y2)),Fact.eq (.int .u64 (sg164 y2)),Fact.eq (.pointer (some ⟨q,0,none⟩)),Fact.eq (.int .i64 (i0:Int)),Fact.eq (.int .i64 ((i0:Int) - 7)),Fact.eq (.int .i64 (p7:Int)),Fact.eq (.pointer (some ⟨q,0,none⟩)),Fact.eq (.pointer (some ⟨q,p7,none⟩)),Fact.eq (.int .u64 (y7)),Fact.eq (.int .u64 ((sg164 y2+y7) % 18446744073709551616)),Fact.eq (.pointer (some ⟨q,0,none⟩)),Fact.eq (.int .i64 (i0:Int)),Fact.eq (.int .i64 ((i0:Int) - 15)),Fact.eq (.int .i64 (p15:Int)),Fact.eq (.pointer (some ⟨q,0,none⟩)),Fact.eq (.pointer (some ⟨q,p15,none⟩)),Fact.eq (.int .u64 (y15)),Fact.eq (.int .u64 (sg064 y15)),Fact.eq (.int .u64 ((((sg164 y2+y7) % 18446744073709551616)+sg064 y15) % 18446744073709551616)),Fact.eq (.int .u64 ((y0+(((sg164 y2+y7) % 18446744073709551616)+sg064 y15) % 18446744073709551616) % 18446744073709551616)),Fact.eq (.pointer (some ⟨q,0,none⟩)),Fact.eq (.pointer (some ⟨q,p0,none⟩))].getD i Fact.no) (by kernel_rfl) (by kernel_rfl) rfl rfl ?_ ?_
 ·skip
  intro i hi
  obtain rfl | rfl | rfl | rfl | rfl | rfl | rfl | rfl | rfl | rfl | rfl | rfl | rfl | rfl | rfl | rfl | rfl | rfl | rfl | rfl | rfl | rfl | rfl | rfl | rfl | rfl | rfl | rfl | rfl | rfl | rfl | rfl | rfl | rfl:i=0∨i=1∨i=2∨i=3∨i=4∨i=5∨i=6∨i=7∨i=8∨i=9∨i=10∨i=11∨i=12∨i=13∨i=14∨i=15∨i=16∨i=17∨i=18∨i=19∨i=20∨i=21∨i=22∨i=23∨i=24∨i=25∨i=26∨i=27∨i=28∨i=29∨i=30∨i=31∨i=32∨i=33:=by omega
  ·refine step_pure rfl fun a w hb hw hf => ?_
   have e0:a.tmps[0]?.getD undef = .pointer (some ⟨q,0,none⟩):=gdv (hb.2.2 0 (by kernel_rfl))
   exact ⟨.pointer (some ⟨q,0,none⟩),by simp [go_sem,e0],rfl⟩
  ·refine step_pure rfl fun a w hb hw hf => ?_
   have e1:a.tmps[1]?.getD undef = .int .i64 (i0:Int):=gdv (hb.2.2 1 (by kernel_rfl))
   exact ⟨.int .i64 (i0:Int),by simp [go_sem,e1],rfl⟩
  ·refine step_pure rfl fun a w hb hw hf => ?_
   have e5:a.tmps[5]?.getD undef = .int .i64 (i0:Int):=gdv (hf 1 5 (by kernel_rfl))
   exact ⟨.int .i64 (p0:Int),by simp [go_sem,e5,m0],rfl⟩
  ·refine step_pure rfl fun a w hb hw hf => ?_
   have e4:a.tmps[4]?.getD undef = .pointer (some ⟨q,0,none⟩):=gdv (hf 0 4 (by kernel_rfl))
   exact ⟨.pointer (some ⟨q,0,none⟩),by simp [go_sem,e4],rfl⟩
  ·refine step_pure rfl fun a w hb hw hf => ?_
   have e7:a.tmps[7]?.getD undef = .pointer (some ⟨q,0,none⟩):=gdv (hf 3 7 (by kernel_rfl))
   have e6:a.tmps[6]?.getD undef = .int .i64 (p0:Int):=gdv (hf 2 6 (by kernel_rfl))
   exact ⟨.pointer (some ⟨q,p0,none⟩),by simp [go_sem,e7,e6,l0],rfl⟩
  ·refine step_pure rfl fun a w hb hw hf => ?_
   have e8:a.tmps[8]?.getD undef = .pointer (some ⟨q,p0,none⟩):=gdv (hf 4 8 (by kernel_rfl))
   have hc:=c0 w hw
   exact ⟨.int .u64 (y0),by simp [go_sem,e8,hc],rfl⟩
  ·refine step_pure rfl fun a w hb hw hf => ?_
   have e0:a.tmps[0]?.getD undef = .pointer (some ⟨q,0,none⟩):=gdv (hb.2.2 0 (by kernel_rfl))
   exact ⟨.pointer (some ⟨q,0,none⟩),by simp [go_sem,e0],rfl⟩
  ·refine step_pure rfl fun a w hb hw hf => ?_
   have e1:a.tmps[1]?.getD undef = .int .i64 (i0:Int):=gdv (hb.2.2 1 (by kernel_rfl))
   exact ⟨.int .i64 (i0:Int),by simp [go_sem,e1],rfl⟩
  ·refine step_pure rfl fun a w hb hw hf => ?_
   have e11:a.tmps[11]?.getD undef = .int .i64 (i0:Int):=gdv (hf 7 11 (by kernel_rfl))
   exact ⟨.int .i64 ((i0:Int) - 2),by simp [go_sem,e11,s2],rfl⟩
  ·refine step_pure rfl fun a w hb hw hf => ?_
   have e12:a.tmps[12]?.getD undef = .int .i64 ((i0:Int) - 2):=gdv (hf 8 12 (by kernel_rfl))
   exact ⟨.int .i64 (p2:Int),by simp [go_sem,e12,m2],rfl⟩
  ·refine step_pure rfl fun a w hb hw hf => ?_
   have e10:a.tmps[10]?.getD undef = .pointer (some ⟨q,0,none⟩):=gdv (hf 6 10 (by kernel_rfl))
   exact ⟨.pointer (some ⟨q,0,none⟩),by simp [go_sem,e10],rfl⟩
  ·refine step_pure rfl fun a w hb hw hf => ?_
   have e14:a.tmps[14]?.getD undef = .pointer (some ⟨q,0,none⟩):=gdv (hf 10 14 (by kernel_rfl))
   have e13:a.tmps[13]?.getD undef = .int .i64 (p2:Int):=gdv (hf 9 13 (by kernel_rfl))
   exact ⟨.pointer (some ⟨q,p2,none⟩),by simp [go_sem,e14,e13,l2],rfl⟩
  ·refine step_pure rfl fun a w hb hw hf => ?_
   have e15:a.tmps[15]?.getD undef = .pointer (some ⟨q,p2,none⟩):=gdv (hf 11 15 (by kernel_rfl))
   have hc:=c2 w hw
   exact ⟨.int .u64 (y2),by simp [go_sem,e15,hc],rfl⟩
  ·refine step_callv rfl 137 _ _ rfl (by kernel_rfl) fun a w hb hw hf => ?_
   have e16:a.tmps.getD 16 undef = .int .u64 (y2):=hf 12 16 (by kernel_rfl)
   show Calls Tryz.prog 137 #[a.tmps.getD 16 undef] w _
   rw [e16]
   exact (smallMix1_64 w y2 h2).mono (by rintro r w' ⟨rfl,m,rfl⟩;exact ⟨_,rfl,below_drewN (Below.refl _ _) _,rfl⟩)
  ·refine step_pure rfl fun a w hb hw hf => ?_
   have e0:a.tmps[0]?.getD undef = .pointer (some ⟨q,0,none⟩):=gdv (hb.2.2 0 (by kernel_rfl))
   exact ⟨.pointer (some ⟨q,0,none⟩),by simp [go_sem,e0],rfl⟩
  ·refine step_pure rfl fun a w hb hw hf => ?_
   have e1:a.tmps[1]?.getD undef = .int .i64 (i0:Int):=gdv (hb.2.2 1 (by kernel_rfl))
   exact ⟨.int .i64 (i0:Int),by simp [go_sem,e1],rfl⟩
  ·refine step_pure rfl fun a w hb hw hf => ?_
   have e19:a.tmps[19]?.getD undef = .int .i64 (i0:Int):=gdv (hf 15 19 (by kernel_rfl))
   exact ⟨.int .i64 ((i0:Int) - 7),by simp [go_sem,e19,s7],rfl⟩
  ·refine step_pure rfl fun a w hb hw hf => ?_
   have e20:a.tmps[20]?.getD undef = .int .i64 ((i0:Int) - 7):=gdv (hf 16 20 (by kernel_rfl))
   exact ⟨.int .i64 (p7:Int),by simp [go_sem,e20,m7],rfl⟩
  ·refine step_pure rfl fun a w hb hw hf => ?_
   have e18:a.tmps[18]?.getD undef = .pointer (some ⟨q,0,none⟩):=gdv (hf 14 18 (by kernel_rfl))
   exact ⟨.pointer (some ⟨q,0,none⟩),by simp [go_sem,e18],rfl⟩
  ·refine step_pure rfl fun a w hb hw hf => ?_
   have e22:a.tmps[22]?.getD undef = .pointer (some ⟨q,0,none⟩):=gdv (hf 18 22 (by kernel_rfl))
   have e21:a.tmps[21]?.getD undef = .int .i64 (p7:Int):=gdv (hf 17 21 (by kernel_rfl))
   exact ⟨.pointer (some ⟨q,p7,none⟩),by simp [go_sem,e22,e21,l7],rfl⟩
  ·refine step_pure rfl fun a w hb hw hf => ?_
   have e23:a.tmps[23]?.getD undef = .pointer (some ⟨q,p7,none⟩):=gdv (hf 19 23 (by kernel_rfl))
   have hc:=c7 w hw
   exact ⟨.int .u64 (y7),by simp [go_sem,e23,hc],rfl⟩
  ·refine step_pure rfl fun a w hb hw hf => ?_
   have e17:a.tmps[17]?.getD undef = .int .u64 (sg164 y2):=gdv (hf 13 17 (by kernel_rfl))
   have e24:a.tmps[24]?.getD undef = .int .u64 (y7):=gdv (hf 20 24 (by kernel_rfl))
   exact ⟨.int .u64 ((sg164 y2+y7) % 18446744073709551616),by simp [go_sem,e17,e24,IntKind.wrap_u64],rfl⟩
  ·refine step_pure rfl fun a w hb hw hf => ?_
   have e0:a.tmps[0]?.getD undef = .pointer (some ⟨q,0,none⟩):=gdv (hb.2.2 0 (by kernel_rfl))
   exact ⟨.pointer (some ⟨q,0,none⟩),by simp [go_sem,e0],rfl⟩
  ·refine step_pure rfl fun a w hb hw hf => ?_
   have e1:a.tmps[1]?.getD undef = .int .i64 (i0:Int):=gdv (hb.2.2 1 (by kernel_rfl))
   exact ⟨.int .i64 (i0:Int),by simp [go_sem,e1],rfl⟩
  ·refine step_pure rfl fun a w hb hw hf => ?_
   have e27:a.tmps[27]?.getD undef = .int .i64 (i0:Int):=gdv (hf 23 27 (by kernel_rfl))
   exact ⟨.int .i64 ((i0:Int) - 15),by simp [go_sem,e27,s15],rfl⟩
  ·refine step_pure rfl fun a w hb hw hf => ?_
   have e28:a.tmps[28]?.getD undef = .int .i64 ((i0:Int) - 15):=gdv (hf 24 28 (by kernel_rfl))
   exact ⟨.int .i64 (p15:Int),by simp [go_sem,e28,m15],rfl⟩
  ·refine step_pure rfl fun a w hb hw hf => ?_
   have e26:a.tmps[26]?.getD undef = .pointer (some ⟨q,0,none⟩):=gdv (hf 22 26 (by kernel_rfl))
   exact ⟨.pointer (some ⟨q,0,none⟩),by simp [go_sem,e26],rfl⟩
  ·refine step_pure rfl fun a w hb hw hf => ?_
   have e30:a.tmps[30]?.getD undef = .pointer (some ⟨q,0,none⟩):=gdv (hf 26 30 (by kernel_rfl))
   have e29:a.tmps[29]?.getD undef = .int .i64 (p15:Int):=gdv (hf 25 29 (by kernel_rfl))
   exact ⟨.pointer (some ⟨q,p15,none⟩),by simp [go_sem,e30,e29,l15],rfl⟩
  ·refine step_pure rfl fun a w hb hw hf => ?_
   have e31:a.tmps[31]?.getD undef = .pointer (some ⟨q,p15,none⟩):=gdv (hf 27 31 (by kernel_rfl))
   have hc:=c15 w hw
   exact ⟨.int .u64 (y15),by simp [go_sem,e31,hc],rfl⟩
  ·refine step_callv rfl 138 _ _ rfl (by kernel_rfl) fun a w hb hw hf => ?_
   have e32:a.tmps.getD 32 undef = .int .u64 (y15):=hf 28 32 (by kernel_rfl)
   show Calls Tryz.prog 138 #[a.tmps.getD 32 undef] w _
   rw [e32]
   exact (smallMix0_64 w y15 h15).mono (by rintro r w' ⟨rfl,m,rfl⟩;exact ⟨_,rfl,below_drewN (Below.refl _ _) _,rfl⟩)
  ·refine step_pure rfl fun a w hb hw hf => ?_
   have e25:a.tmps[25]?.getD undef = .int .u64 ((sg164 y2+y7) % 18446744073709551616):=gdv (hf 21 25 (by kernel_rfl))
   have e33:a.tmps[33]?.getD undef = .int .u64 (sg064 y15):=gdv (hf 29 33 (by kernel_rfl))
   exact ⟨.int .u64 ((((sg164 y2+y7) % 18446744073709551616)+sg064 y15) % 18446744073709551616),by simp [go_sem,e25,e33,IntKind.wrap_u64],rfl⟩
  ·refine step_pure rfl fun a w hb hw hf => ?_
   have e9:a.tmps[9]?.getD undef = .int .u64 (y0):=gdv (hf 5 9 (by kernel_rfl))
   have e34:a.tmps[34]?.getD undef = .int .u64 ((((sg164 y2+y7) % 18446744073709551616)+sg064 y15) % 18446744073709551616):=gdv (hf 30 34 (by kernel_rfl))
   exact ⟨.int .u64 ((y0+(((sg164 y2+y7) % 18446744073709551616)+sg064 y15) % 18446744073709551616) % 18446744073709551616),by simp [go_sem,e9,e34,IntKind.wrap_u64],rfl⟩
  ·refine step_pure rfl fun a w hb hw hf => ?_
   have e4:a.tmps[4]?.getD undef = .pointer (some ⟨q,0,none⟩):=gdv (hf 0 4 (by kernel_rfl))
   exact ⟨.pointer (some ⟨q,0,none⟩),by simp [go_sem,e4],rfl⟩
  ·refine step_pure rfl fun a w hb hw hf => ?_
   have e36:a.tmps[36]?.getD undef = .pointer (some ⟨q,0,none⟩):=gdv (hf 32 36 (by kernel_rfl))
   have e6:a.tmps[6]?.getD undef = .int .i64 (p0:Int):=gdv (hf 2 6 (by kernel_rfl))
   exact ⟨.pointer (some ⟨q,p0,none⟩),by simp [go_sem,e36,e6,l0],rfl⟩
 ·intro a w' hb hw hf
  have e37:a.tmps[37]?.getD undef = .pointer (some ⟨q,p0,none⟩):=gdv (hf 33 37 (by kernel_rfl))
  have e35:a.tmps[35]?.getD undef = .int .u64 (extv64 y0 y2 y7 y15):=gdv (hf 31 35 (by kernel_rfl))
  have hc:=c0 w' hw
  have hz:=f0 w' hw
  unfold Oper.wp
  simp [go_sem,e37,e35,hc,hz]
  exact bodyPost_end (v := .tuple #[]) (by simp [results,Tryz.results128,go_sem]) hb.1 ⟨rfl,w',hw,rfl⟩
end Go.Proofs.YtnpolopcgmjmnaaGreatDoor
namespace Go.Proofs.YtnpolopcgmjmnaaGreatDoor
set_option maxRecDepth 100000
open Go Go.RowKit
def Ok64 (s:S8):Prop:=Wd64 s.a∧Wd64 s.b∧Wd64 s.c∧Wd64 s.d∧Wd64 s.e∧Wd64 s.f∧Wd64 s.g∧Wd64 s.h
def wF64 (b:Nat→Int):Nat→Nat→Int
 | 0,_=>0
 | n+1,i=>if i < 16 then b i else (sg164 (wF64 b n (i - 2))+wF64 b n (i - 7)+sg064 (wF64 b n (i - 15))+wF64 b n (i - 16)) % 18446744073709551616
def wS64 (b:Nat→Int) (i:Nat):Int:=wF64 b (1+i) i
theorem wF_same64 (b:Nat→Int):∀ n m i:Nat,i < n→i < m→wF64 b n i=wF64 b m i
  | 0,_,_,h,_=>absurd h (by omega)
  | _+1,0,_,_,k=>absurd k (by omega)
  | n + 1, m + 1, i, h, k => by
    rw [wF64,wF64]
    by_cases c:i < 16
    · rw [if_pos c,if_pos c]
    · rw [if_neg c,if_neg c,wF_same64 b n m (i - 2) (by omega) (by omega),wF_same64 b n m (i - 7) (by omega) (by omega),wF_same64 b n m (i - 15) (by omega) (by omega),wF_same64 b n m (i - 16) (by omega) (by omega)]
theorem wS_eq64 (b:Nat→Int) (i:Nat):wS64 b i=if i < 16 then b i else (sg164 (wS64 b (i - 2))+wS64 b (i - 7)+sg064 (wS64 b (i - 15))+wS64 b (i - 16)) % 18446744073709551616:=by
 have e:wS64 b i=wF64 b (i+1) i:=wF_same64 b _ _ i (by omega) (by omega)
 rw [e,wF64]
 by_cases c:i < 16
 ·rw [if_pos c,if_pos c]
 ·rw [if_neg c, if_neg c, wF_same64 b i (1 + (i - 2)) (i - 2) (by omega) (by omega), wF_same64 b i (1 + (i - 7)) (i - 7) (by omega) (by omega), wF_same64 b i (1 + (i - 15)) (i - 15) (by omega) (by omega), wF_same64 b i (1 + (i - 16)) (i - 16) (by omega) (by omega)]
  rfl
theorem wS_low64 (b:Nat→Int) {i:Nat} (h:i < 16):wS64 b i=b i:=by rw [wS_eq64,if_pos h]
theorem wS_go64 (b:Nat→Int) {i:Nat} (h:16≤i):wS64 b i=(sg164 (wS64 b (i - 2))+wS64 b (i - 7)+sg064 (wS64 b (i - 15))+wS64 b (i - 16)) % 18446744073709551616:=by
 conv=>lhs;rw [wS_eq64]
 rw [if_neg (by omega)]
theorem wS_wd64 {b:Nat→Int} (hb:∀ i,i < 16→Wd64 (b i)) (i:Nat):Wd64 (wS64 b i):=by
 by_cases h:i < 16
 ·rw [wS_low64 b h]
  exact hb i h
 ·rw [wS_go64 b (by omega)]
  exact mod_wd64 _
def Roll64 (b:Nat→Int) (ys:List Int) (n:Nat):Prop:=ys.length=16∧∀ m,m < n→n≤m+16→ys.getD (m % 16) 0=wS64 b m
theorem Roll.first64 {b:Nat→Int} {ys:List Int} (hl:ys.length=16) (h:∀ i,i < 16→ys.getD i 0=b i):Roll64 b ys 16 :=
 ⟨hl,fun m hm _=>by rw [Nat.mod_eq_of_lt hm,h m hm,wS_low64 b hm]⟩
theorem Roll.step64 {b:Nat→Int} {ys:List Int} {i:Nat} (h:Roll64 b ys i) (hi:16≤i) :
  Roll64 b (ys.set (i % 16) (extv64 (ys.getD (i % 16) 0) (ys.getD ((i - 2) % 16) 0) (ys.getD ((i - 7) % 16) 0) (ys.getD ((i - 15) % 16) 0))) (i+1):=by
 have e0:=h.2 (i - 16) (by omega) (by omega)
 have e2:=h.2 (i - 2) (by omega) (by omega)
 have e7:=h.2 (i - 7) (by omega) (by omega)
 have e15:=h.2 (i - 15) (by omega) (by omega)
 rw [show (i - 16) % 16=i % 16 by omega] at e0
 rw [e0,e2,e7,e15]
 have ev:extv64 (wS64 b (i - 16)) (wS64 b (i - 2)) (wS64 b (i - 7)) (wS64 b (i - 15))=wS64 b i:=by
  rw [wS_go64 b hi]
  unfold extv64
  omega
 rw [ev]
 refine ⟨by rw [List.length_set];exact h.1,fun m hm hm'=>?_⟩
 by_cases c:m=i
 ·subst c
  rw [getD_set_self _ _ _ (by rw [h.1];omega)]
 ·rw [getD_set_ne _ _ _ _ (by omega)]
  exact h.2 m (by omega) (by omega)
def tS64 (k w:Int) (s:S8):Int:=(s.h+gg164 s.e+ch64 s.e s.f s.g+k+w) % 18446744073709551616
def uS64 (s:S8):Int:=(gg064 s.a+mj64 s.a s.b s.c) % 18446744073709551616
def stp64 (k w:Int) (s:S8):S8:=⟨(tS64 k w s+uS64 s) % 18446744073709551616,s.a,s.b,s.c,(s.d+tS64 k w s) % 18446744073709551616,s.e,s.f,s.g⟩
theorem stp_ok64 {k w:Int} {s:S8} (h:Ok64 s):Ok64 (stp64 k w s) :=
 ⟨mod_wd64 _,h.1,h.2.1,h.2.2.1,mod_wd64 _,h.2.2.2.2.1,h.2.2.2.2.2.1,h.2.2.2.2.2.2.1⟩
def rnds64 (K w:Nat→Int):Nat→S8→S8
 | 0,s=>s
 | n+1,s=>stp64 (K n) (w n) (rnds64 K w n s)
theorem rnds_ok64 {K w:Nat→Int} {s:S8} (h:Ok64 s):∀ n,Ok64 (rnds64 K w n s)
 | 0=>h
 | n+1=>stp_ok64 (rnds_ok64 h n)
def K64 (i:Nat):Int:=kL.getD i 0
theorem K_wd64 (i:Nat) (h:i < 80):Wd64 (K64 i):=by
 have:=kL_lt ⟨i,by omega⟩
 have h2:kL.getD (⟨i,by omega⟩:Fin 80).val 0=kL.getD i 0:=rfl
 rw [h2] at this
 unfold K64 Wd64
 omega
def add64 (s r:S8):S8:=⟨(s.a+r.a) % 18446744073709551616,(s.b+r.b) % 18446744073709551616,(s.c+r.c) % 18446744073709551616,(s.d+r.d) % 18446744073709551616,(s.e+r.e) % 18446744073709551616,(s.f+r.f) % 18446744073709551616,(s.g+r.g) % 18446744073709551616,(s.h+r.h) % 18446744073709551616⟩
theorem add_ok64 (s r:S8):Ok64 (add64 s r):=⟨mod_wd64 _,mod_wd64 _,mod_wd64 _,mod_wd64 _,mod_wd64 _,mod_wd64 _,mod_wd64 _,mod_wd64 _⟩
def blk64 (s:S8) (b:Nat→Int):S8:=add64 s (rnds64 K64 (wS64 b) 80 s)
theorem blk_ok64 (s:S8) (b:Nat→Int):Ok64 (blk64 s b):=add_ok64 _ _
end Go.Proofs.YtnpolopcgmjmnaaGreatDoor
namespace Go.Proofs.YtnpolopcgmjmnaaGreatDoor
set_option maxRecDepth 100000
open Go Go.RowKit
def bw (z:Nat) (xs:List Int) (j:Nat):Nat→Int
 | 0=>0
 | m+1=>bw z xs j m*256+xs.getD (z*j+m) 0
theorem bw_lt {z:Nat} {xs:List Int} (hb:Byt xs) (j:Nat):∀ m,0≤bw z xs j m∧bw z xs j m < 256 ^ m
  | 0=>by simp [bw]
  | m + 1 => by
    have ih:=bw_lt (z:=z) hb j m
    have h:=hb (z*j+m)
    rw [bw,Int.pow_succ]
    omega
def wd (z:Nat) (xs:List Int) (j:Nat):Int:=bw z xs j z
theorem wd_64 {xs:List Int} (hb:Byt xs) (j:Nat):Wd64 (wd 8 xs j):=by
 have:=bw_lt (z:=8) hb j 8
 have e:(256:Int) ^ 8=18446744073709551616:=by decide
 rw [e] at this
 exact this
theorem bw_congr {z:Nat} {xs ys:List Int} {j:Nat}:∀ {m:Nat},(∀ i,i < m→xs.getD (z*j+i) 0=ys.getD (z*j+i) 0)→bw z xs j m=bw z ys j m
 | 0,_=>rfl
 | m+1,h=>by rw [bw,bw,bw_congr (fun i hi=>h i (by omega)),h m (by omega)]
def FilW (z:Nat) (xs:List Int) (n:Nat) (ys:List Int) (i:Nat):Prop :=
 ys.length=n∧∀ j,j < n→ys.getD j 0=if j < i / z then wd z xs j else if j=i / z then bw z xs j (i % z) else 0
theorem FilW.zero (z:Nat) (xs:List Int) (n:Nat):FilW z xs n (List.replicate n 0) 0:=by
 refine ⟨by simp,fun j hj=>?_⟩
 rw [Nat.zero_div,if_neg (by omega),Nat.zero_mod,List.getD_eq_getElem?_getD,List.getElem?_replicate,if_pos hj]
 split <;> rfl
theorem FilW.here {z n i:Nat} {xs ys:List Int} (h:FilW z xs n ys i) (hi:i / z < n):ys.getD (i / z) 0=bw z xs (i / z) (i % z):=by
 rw [h.2 _ hi,if_neg (by omega),if_pos rfl]
theorem FilW.step {z n i : Nat} {xs ys : List Int} (hz : 0 < z) (h : FilW z xs n ys i) : FilW z xs n (ys.set (i / z) (bw z xs (i / z) (i % z) * 256 + xs.getD i 0)) (i + 1) := by
 refine ⟨by rw [List.length_set];exact h.1,fun j hj=>?_⟩
 have hm:=Nat.div_add_mod i z
 have hml:=Nat.mod_lt i hz
 have hnew:bw z xs (i / z) (i % z)*256+xs.getD i 0=bw z xs (i / z) (i % z+1):=by rw [bw,hm]
 rw [hnew]
 by_cases e:i % z+1=z
 ·have d1 : (i + 1) / z = i / z + 1 := by
   rw [show i+1=z*(i / z+1) by rw [Nat.mul_add,Nat.mul_one];omega,Nat.mul_div_cancel_left _ hz]
  have d2:(i+1) % z=0:=by
   rw [show i+1=z*(i / z+1) by rw [Nat.mul_add,Nat.mul_one];omega,Nat.mul_mod_right]
  rw [d1,d2]
  by_cases c:i / z=j
  ·subst c
   rw [getD_set_self _ _ _ (by rw [h.1];exact hj),if_pos (by omega),e]
   rfl
  ·rw [getD_set_ne _ _ _ _ c, h.2 j hj]
   by_cases c2:j < i / z
   ·rw [if_pos c2,if_pos (by omega)]
   ·rw [if_neg c2, if_neg (by omega), if_neg (by omega)]
    split <;> rfl
 ·have d1 : (i + 1) / z = i / z := by
   refine Nat.div_eq_of_lt_le ?_ ?_
   ·rw [Nat.mul_comm];omega
   ·rw [Nat.add_mul,Nat.one_mul,Nat.mul_comm];omega
  have d2:(i+1) % z=i % z+1:=by
   have:=Nat.div_add_mod (i+1) z
   rw [d1] at this
   omega
  rw [d1,d2]
  by_cases c:i / z=j
  ·subst c
   rw [getD_set_self _ _ _ (by rw [h.1];exact hj),if_neg (by omega),if_pos rfl]
  ·rw [getD_set_ne _ _ _ _ c, h.2 j hj]
   by_cases c2:j < i / z
   ·rw [if_pos c2,if_pos c2]
   ·rw [if_neg c2,if_neg c2,if_neg (by omega),if_neg (by omega)]
theorem FilW.all {z n:Nat} {xs ys:List Int} (hz:0 < z) (h:FilW z xs n ys (z*n)):ys.length=n∧∀ j,j < n→ys.getD j 0=wd z xs j:=by
 refine ⟨h.1,fun j hj=>?_⟩
 rw [h.2 j hj,Nat.mul_div_cancel_left _ hz,if_pos hj]
def wholeF64:Nat→S8→List Int→S8
 | 0,s,_=>s
 | n+1,s,l=>if l.length < 128 then s else wholeF64 n (blk64 s (wd 8 l)) (l.drop 128)
def whole64 (s:S8) (l:List Int):S8:=wholeF64 (1+l.length) s l
theorem wholeF_same64:∀ (n m:Nat) (s:S8) (l:List Int),l.length < n→l.length < m→wholeF64 n s l=wholeF64 m s l
  | 0,_,_,_,h,_=>absurd h (by omega)
  | _+1,0,_,_,_,k=>absurd k (by omega)
  | n + 1, m + 1, s, l, h, k => by
    rw [wholeF64,wholeF64]
    by_cases c:l.length < 128
    · rw [if_pos c,if_pos c]
    · rw [if_neg c,if_neg c,wholeF_same64 n m _ _ (by rw [List.length_drop];omega) (by rw [List.length_drop];omega)]
theorem whole_eq64 (s:S8) (l:List Int):whole64 s l=if l.length < 128 then s else whole64 (blk64 s (wd 8 l)) (l.drop 128):=by
 have e:whole64 s l=wholeF64 (l.length+1) s l:=wholeF_same64 _ _ s l (by omega) (by omega)
 rw [e,wholeF64]
 by_cases c:l.length < 128
 ·rw [if_pos c,if_pos c]
 ·rw [if_neg c, if_neg c]
  exact wholeF_same64 _ _ _ _ (by rw [List.length_drop];omega) (by omega)
theorem whole_short64 (s:S8) {l:List Int} (h:l.length < 128):whole64 s l=s:=by rw [whole_eq64,if_pos h]
theorem wd_take64 (l:List Int):∀ j,j < 16→wd 8 (l.take 128) j=wd 8 l j:=fun j hj=>bw_congr fun i hi=>by
 rw [List.getD_eq_getElem?_getD,List.getD_eq_getElem?_getD,List.getElem?_take,if_pos (by omega)]
theorem wS_congr64 {b c:Nat→Int} (h:∀ i,i < 16→b i=c i) (i:Nat):wS64 b i=wS64 c i:=by
  induction i using Nat.strongRecOn with
  | ind i ih =>
    by_cases h1:i < 16
    · rw [wS_low64 b h1,wS_low64 c h1,h i h1]
    · rw [wS_go64 b (by omega),wS_go64 c (by omega),ih (i - 2) (by omega),ih (i - 7) (by omega),ih (i - 15) (by omega),ih (i - 16) (by omega)]
theorem blk_congr64 (s:S8) {b c:Nat→Int} (h:∀ i,i < 16→b i=c i):blk64 s b=blk64 s c:=by
 have e:wS64 b=wS64 c:=funext (wS_congr64 h)
 unfold blk64
 rw [e]
theorem whole_app64 (s:S8) (l m:List Int) (h:l.length=128):whole64 s (l ++ m)=whole64 (blk64 s (wd 8 l)) m:=by
 rw [whole_eq64,if_neg (by rw [List.length_append];omega)]
 have e1:(l ++ m).drop 128=m:=by rw [← h];exact List.drop_left
 have e2:(l ++ m).take 128=l:=by rw [← h];exact List.take_left
 rw [e1]
 rw [blk_congr64 s (fun i hi=>(wd_take64 (l ++ m) i hi).symm),e2]
theorem whole_ok64 {s:S8} (hs:Ok64 s) (l:List Int):Ok64 (whole64 s l):=by
  induction h:l.length using Nat.strongRecOn generalizing s l with
  | ind n ih =>
    by_cases c:l.length < 128
    · rw [whole_short64 s c]
      exact hs
    · rw [whole_eq64, if_neg c]
      exact ih (l.drop 128).length (by simp;omega) (blk_ok64 _ _) _ rfl
def left64 (l:List Int):List Int:=l.drop (l.length - l.length % 128)
theorem left_short64 {l:List Int} (h:l.length < 128):left64 l=l:=by
 unfold left64
 rw [Nat.mod_eq_of_lt h,Nat.sub_self,List.drop_zero]
theorem left_app64 (l m:List Int) (h:l.length=128):left64 (l ++ m)=left64 m:=by
 unfold left64
 rw [List.length_append,h,Nat.add_mod_left]
 have:m.length % 128≤m.length:=Nat.mod_le _ _
 rw [show 128+m.length - m.length % 128=l.length+(m.length - m.length % 128) by omega,← List.drop_drop,List.drop_left]
def tell64 (s:S8):List Int:=bigL s.a 8 ++ (bigL s.b 8 ++ (bigL s.c 8 ++ (bigL s.d 8 ++ (bigL s.e 8 ++ (bigL s.f 8 ++ (bigL s.g 8 ++ bigL s.h 8))))))
theorem tell_len64 (s:S8):(tell64 s).length=64:=by unfold tell64;simp [bigL_len]
theorem tell_byt64 (s:S8):Byt (tell64 s) :=
 byt_apd (bigL_byt _ _) (byt_apd (bigL_byt _ _) (byt_apd (bigL_byt _ _) (byt_apd (bigL_byt _ _) (byt_apd (bigL_byt _ _) (byt_apd (bigL_byt _ _) (byt_apd (bigL_byt _ _) (bigL_byt _ _)))))))
theorem tell_get64 (s:S8) (i:Nat) (h:i < 64):(tell64 s).getD i 0=s.l.getD (i / 8) 0 / 2 ^ (8*(8 - 1 - i % 8)) % 256:=by
 have key:∀ (v:Int) (m:List Int) (p:Nat),p < 8→(bigL v 8 ++ m).getD p 0=v / 2 ^ (8*(8 - 1 - p)) % 256:=fun v m p hp=>by
  rw [getD_apd_left _ _ _ (by rw [bigL_len];exact hp),bigL_get _ _ _ hp,p256_two]
 have go:∀ (v:Int) (m:List Int) (p:Nat),8≤p→(bigL v 8 ++ m).getD p 0=m.getD (p - 8) 0:=fun v m p hp=>by
  rw [getD_apd_right _ _ _ (by rw [bigL_len];exact hp),bigL_len]
 have lst:∀ (v:Int) (p:Nat),p < 8→(bigL v 8).getD p 0=v / 2 ^ (8*(8 - 1 - p)) % 256:=fun v p hp=>by
  rw [bigL_get _ _ _ hp,p256_two]
 have hm:=Nat.div_add_mod i 8
 have hl:=Nat.mod_lt i (show 0 < 8 by decide)
 unfold tell64
 obtain c | c | c | c | c | c | c | c:i / 8=0∨i / 8=1∨i / 8=2∨i / 8=3∨i / 8=4∨i / 8=5∨i / 8=6∨i / 8=7:=by omega
 ·rw [c,key _ _ _ (by omega),show i % 8=i by omega];rfl
 ·rw [c,go _ _ _ (by omega),key _ _ _ (by omega),show i - 8=i % 8 by omega];rfl
 ·rw [c,go _ _ _ (by omega),go _ _ _ (by omega),key _ _ _ (by omega),show i - 8 - 8=i % 8 by omega];rfl
 ·rw [c,go _ _ _ (by omega),go _ _ _ (by omega),go _ _ _ (by omega),key _ _ _ (by omega),show i - 8 - 8 - 8=i % 8 by omega];rfl
 ·rw [c,go _ _ _ (by omega),go _ _ _ (by omega),go _ _ _ (by omega),go _ _ _ (by omega),key _ _ _ (by omega),show i - 8 - 8 - 8 - 8=i % 8 by omega];rfl
 ·rw [c,go _ _ _ (by omega),go _ _ _ (by omega),go _ _ _ (by omega),go _ _ _ (by omega),go _ _ _ (by omega),key _ _ _ (by omega),show i - 8 - 8 - 8 - 8 - 8=i % 8 by omega];rfl
 ·rw [c,go _ _ _ (by omega),go _ _ _ (by omega),go _ _ _ (by omega),go _ _ _ (by omega),go _ _ _ (by omega),go _ _ _ (by omega),key _ _ _ (by omega),show i - 8 - 8 - 8 - 8 - 8 - 8=i % 8 by omega];rfl
 ·rw [c,go _ _ _ (by omega),go _ _ _ (by omega),go _ _ _ (by omega),go _ _ _ (by omega),go _ _ _ (by omega),go _ _ _ (by omega),go _ _ _ (by omega),lst _ _ (by omega),show i - 8 - 8 - 8 - 8 - 8 - 8 - 8=i % 8 by omega];rfl
def start64:S8:=⟨7640891576956012808,13503953896175478587,4354685564936845355,11912009170470909681,5840696475078001361,11170449401992604703,2270897969802886507,6620516959819538809⟩
theorem start_ok64:Ok64 start64:=by
 refine ⟨?_,?_,?_,?_,?_,?_,?_,?_⟩ <;> exact ⟨by decide,by decide⟩
end Go.Proofs.YtnpolopcgmjmnaaGreatDoor
namespace Go.Proofs.YtnpolopcgmjmnaaGreatDoor
set_option maxRecDepth 100000
open Go Go.RowKit
def agw (k:IntKind) (b:Nat→Int):Value := .agg #[.int k (b 0),.int k (b 1),.int k (b 2),.int k (b 3),.int k (b 4),.int k (b 5),.int k (b 6),.int k (b 7),.int k (b 8),.int k (b 9),.int k (b 10),.int k (b 11),.int k (b 12),.int k (b 13),.int k (b 14),.int k (b 15)]
def lsw (b:Nat→Int):List Int:=[b 0,b 1,b 2,b 3,b 4,b 5,b 6,b 7,b 8,b 9,b 10,b 11,b 12,b 13,b 14,b 15]
theorem lsw_len (b:Nat→Int):(lsw b).length=16:=rfl
theorem lsw_get (b:Nat→Int) (i:Nat) (h:i < 16):(lsw b).getD i 0=b i:=by
 obtain rfl | rfl | rfl | rfl | rfl | rfl | rfl | rfl | rfl | rfl | rfl | rfl | rfl | rfl | rfl | rfl:i=0∨i=1∨i=2∨i=3∨i=4∨i=5∨i=6∨i=7∨i=8∨i=9∨i=10∨i=11∨i=12∨i=13∨i=14∨i=15:=by omega
 all_goals rfl
theorem blk_agw (w:World) (k:IntKind) (ty:TypeId) (b:Nat→Int):Blk (w.alloc (.cells #[.int k (b 0),.int k (b 1),.int k (b 2),.int k (b 3),.int k (b 4),.int k (b 5),.int k (b 6),.int k (b 7),.int k (b 8),.int k (b 9),.int k (b 10),.int k (b 11),.int k (b 12),.int k (b 13),.int k (b 14),.int k (b 15)] ty)) w.heap.size k (lsw b):=by
 refine ⟨ty,?_⟩
 show (w.heap.push _)[w.heap.size]?=_
 simp [lsw]
theorem blk_ag8 (w:World) (k:IntKind) (ty:TypeId) (s:S8):Blk (w.alloc (.cells #[.int k s.a,.int k s.b,.int k s.c,.int k s.d,.int k s.e,.int k s.f,.int k s.g,.int k s.h] ty)) w.heap.size k s.l:=by
 refine ⟨ty,?_⟩
 show (w.heap.push _)[w.heap.size]?=_
 simp [S8.l]
theorem Blk.f8 {w:World} {q:Nat} {k:IntKind} {s:S8} (h:Blk w q k s.l) :
    (w.cell? ⟨q,0,none⟩=some (.int k s.a)∧w.cell? ⟨q,1,none⟩=some (.int k s.b)∧w.cell? ⟨q,2,none⟩=some (.int k s.c)∧w.cell? ⟨q,3,none⟩=some (.int k s.d)∧w.cell? ⟨q,4,none⟩=some (.int k s.e)∧w.cell? ⟨q,5,none⟩=some (.int k s.f)∧w.cell? ⟨q,6,none⟩=some (.int k s.g)∧w.cell? ⟨q,7,none⟩=some (.int k s.h))
    ∧ (w.frozen? ⟨q,0,none⟩=false∧w.frozen? ⟨q,1,none⟩=false∧w.frozen? ⟨q,2,none⟩=false∧w.frozen? ⟨q,3,none⟩=false∧w.frozen? ⟨q,4,none⟩=false∧w.frozen? ⟨q,5,none⟩=false∧w.frozen? ⟨q,6,none⟩=false∧w.frozen? ⟨q,7,none⟩=false) :=
  ⟨⟨h.cell (i:=0) (by rw [S8.l_len];omega),h.cell (i:=1) (by rw [S8.l_len];omega),h.cell (i:=2) (by rw [S8.l_len];omega),h.cell (i:=3) (by rw [S8.l_len];omega),h.cell (i:=4) (by rw [S8.l_len];omega),h.cell (i:=5) (by rw [S8.l_len];omega),h.cell (i:=6) (by rw [S8.l_len];omega),h.cell (i:=7) (by rw [S8.l_len];omega)⟩,
   ⟨h.free 0,h.free 1,h.free 2,h.free 3,h.free 4,h.free 5,h.free 6,h.free 7⟩⟩
theorem tm16 (n k:Nat) (h:k≤n):((n:Int) - (k:Int)).tmod 16=(((n - k) % 16:Nat):Int):=by
 rw [Int.tmod_eq_emod_of_nonneg (by omega)]
 omega
theorem wrap_u64e (n:Int):IntKind.u64.wrap n=n % 18446744073709551616:=by simp [IntKind.wrap,IntKind.bits,IntKind.signed]
theorem below_set8 {B:Nat} {a w:World} (h:Below B a w) {q:Nat} (hq:B≤q) (x0 x1 x2 x3 x4 x5 x6 x7:Value) :
  Below B a ((((((((w.setCell ⟨q,0,none⟩ x0).setCell ⟨q,1,none⟩ x1).setCell ⟨q,2,none⟩ x2).setCell ⟨q,3,none⟩ x3).setCell ⟨q,4,none⟩ x4).setCell ⟨q,5,none⟩ x5).setCell ⟨q,6,none⟩ x6).setCell ⟨q,7,none⟩ x7) :=
 (((((((h.setCell hq _).setCell hq _).setCell hq _).setCell hq _).setCell hq _).setCell hq _).setCell hq _).setCell hq _
end Go.Proofs.YtnpolopcgmjmnaaGreatDoor
namespace Go.Proofs.YtnpolopcgmjmnaaGreatDoor
set_option maxRecDepth 100000
open Go Go.RowKit
def Seg (w:World) (q off:Nat) (k:IntKind) (ys:List Int):Prop:=∀ i,i < ys.length→w.cell? ⟨q,off+i,none⟩=some (.int k (ys.getD i 0))∧w.frozen? ⟨q,off+i,none⟩=false
structure SegX (q off n:Nat) (w w':World):Prop where
 only:Only q w w'
 out:∀ j,(j < off∨off+n≤j)→w'.cell? ⟨q,j,none⟩=w.cell? ⟨q,j,none⟩∧w'.frozen? ⟨q,j,none⟩=w.frozen? ⟨q,j,none⟩
theorem SegX.refl (q off n:Nat) (w:World):SegX q off n w w:=⟨Only.refl _ _,fun _ _=>⟨rfl,rfl⟩⟩
theorem SegX.trans {q off n:Nat} {a b c:World} (h:SegX q off n a b) (k:SegX q off n b c):SegX q off n a c :=
 ⟨h.only.trans k.only,fun j hj=>⟨(k.out j hj).1.trans (h.out j hj).1,(k.out j hj).2.trans (h.out j hj).2⟩⟩
theorem SegX.drew {q off n:Nat} {a b:World} (h:SegX q off n a b):SegX q off n a b.drew:=h.trans ⟨⟨rfl,rfl,rfl,rfl,fun _ _=>rfl⟩,fun _ _=>⟨rfl,rfl⟩⟩
theorem SegX.drewN {q off n:Nat} {a b:World} (h:SegX q off n a b) (m:Nat):SegX q off n a (b.drewN m):=h.trans ⟨⟨rfl,rfl,rfl,rfl,fun _ _=>rfl⟩,fun _ _=>⟨rfl,rfl⟩⟩
theorem frozen_setCell (w:World) (p r:Addr) (v:Value):(w.setCell p v).frozen? r=w.frozen? r:=by simp
theorem SegX.set (w:World) (q off n i:Nat) (hi:i < n) (v:Value):SegX q off n w (w.setCell ⟨q,off+i,none⟩ v):=by
 refine ⟨Only.setCell w q (off+i) v,fun j hj=>⟨?_,frozen_setCell _ _ _ _⟩⟩
 rw [World.cell?_setCell_other (h:=fun h=>by simp only [Addr.mk.injEq,true_and,and_true] at h;omega)]
theorem Seg.store {w:World} {q off:Nat} {k:IntKind} {ys:List Int} (h:Seg w q off k ys) (i:Nat) (hi:i < ys.length) (z:Int):Seg (w.setCell ⟨q,off+i,none⟩ (.int k z)) q off k (ys.set i z):=by
 intro j hj
 rw [List.length_set] at hj
 refine ⟨?_,by rw [frozen_setCell];exact (h j hj).2⟩
 by_cases e:i=j
 ·subst e
  rw [getD_set_self _ _ _ hi,World.cell?_setCell_same _ _ _ (h i hi).1]
 ·rw [getD_set_ne _ _ _ _ e, World.cell?_setCell_other (h := fun h => by simp only [Addr.mk.injEq, true_and, and_true] at h; omega)]
  exact (h j hj).1
theorem Seg.up {w w':World} {q off:Nat} {k:IntKind} {ys:List Int} (h:Seg w q off k ys) (n:Below w.heap.size w w'):Seg w' q off k ys:=by
 intro i hi
 have l:=block_lt_of_cell (h i hi).1
 exact ⟨(World.cell?_of_block (a:=⟨q,off+i,none⟩) (n.block q l)).trans (h i hi).1,(World.frozen?_of_block (a:=⟨q,off+i,none⟩) (n.block q l)).trans (h i hi).2⟩
theorem p256_leh {m n:Nat} (h:m≤n):(256:Int) ^ m≤256 ^ n:=by
 obtain ⟨d,rfl⟩:=Nat.exists_eq_add_of_le h
 rw [Int.pow_add]
 have h1:=p256_pos d
 have h2:=p256_pos m
 have:(256:Int) ^ m*1≤256 ^ m*256 ^ d:=Int.mul_le_mul_of_nonneg_left (by omega) (by omega)
 omega
theorem Seg.range {w:World} {q off:Nat} {k:IntKind} {ys:List Int} (h:Seg w q off k ys):w.rangeAt q off (ys.map (Value.int k)):=fun j v hv=>by
 have hj:j < ys.length:=by have:=(List.getElem?_eq_some_iff.1 hv).1;simpa using this
 rw [(h j hj).1]
 simpa [hj] using hv
theorem one_ints (k:IntKind) (ys:List Int):(ys.map (Value.int k)).toArray.all (·.oneCell')=true:=all_oneCell_toArray fun v hv=>by
 obtain ⟨x,_,rfl⟩:=List.mem_map.1 hv
 rfl
theorem Seg.blk {w:World} {q:Nat} {k:IntKind} {ys:List Int} (h:Blk w q k ys):Seg w q 0 k ys:=fun i hi=>⟨by rw [Nat.zero_add];exact h.cell hi,h.free _⟩
theorem orb64 (x b:Int) (h0:0≤x) (h1:x < 72057594037927936) (b0:0≤b) (b1:b < 256):bits BinOp.or IntKind.u64 (x*256 % 18446744073709551616) b=x*256+b:=by
 obtain ⟨n,rfl⟩:=Int.eq_ofNat_of_zero_le h0
 obtain ⟨m,rfl⟩:=Int.eq_ofNat_of_zero_le b0
 rw [Int.emod_eq_of_lt (by omega) (by omega),show (n:Int)*256=((n*256:Nat):Int) by omega,u64_or_nat (n*256) m (by omega) (by omega),nat_join 8 (n*256) m (by omega) (by omega)]
 omega
end Go.Proofs.YtnpolopcgmjmnaaGreatDoor
namespace Go.Proofs.YtnpolopcgmjmnaaGreatDoor
set_option maxRecDepth 100000
open Go Go.RowKit
def hcl (k:IntKind) (L:Int) (C:S8) (R:List Int):List Value := .int .i64 L :: (C.l.map (Value.int k) ++ R.map (Value.int .u8))
theorem hcl_len (k:IntKind) (L:Int) (C:S8) {R:List Int} (h:R.length=128):(hcl k L C R).length=137:=by
 unfold hcl
 rw [List.length_cons,List.length_append,List.length_map,List.length_map,h,S8.l_len]
theorem hcl_one (k:IntKind) (L:Int) (C:S8) (R:List Int):(hcl k L C R).toArray.all (·.oneCell')=true:=all_oneCell_toArray fun v hv=>by
 unfold hcl at hv
 rcases List.mem_cons.1 hv with rfl | h
 ·rfl
 ·rcases List.mem_append.1 h with h | h
  ·obtain ⟨x, _, rfl⟩ := List.mem_map.1 h
   rfl
  ·obtain ⟨x, _, rfl⟩ := List.mem_map.1 h
   rfl
structure HB (k:IntKind) (w:World) (q:Nat) (L:Int) (C:S8) (R:List Int):Prop where
 len:R.length=128
 c0:w.cell? ⟨q,0,none⟩=some (.int .i64 L)
 f0:w.frozen? ⟨q,0,none⟩=false
 ch:Seg w q 1 k C.l
 rs:Seg w q 9 .u8 R
theorem HB.lt {k:IntKind} {w:World} {q:Nat} {L:Int} {C:S8} {R:List Int} (h:HB k w q L C R):q < w.heap.size:=block_lt_of_cell h.c0
theorem HB.of_block {k:IntKind} {w w':World} {q:Nat} {L:Int} {C:S8} {R:List Int} (h:HB k w q L C R) (hb:w'.heap[q]?=w.heap[q]?):HB k w' q L C R :=
  ⟨h.len,(World.cell?_of_block (a:=⟨q,0,none⟩) hb).trans h.c0,(World.frozen?_of_block (a:=⟨q,0,none⟩) hb).trans h.f0,
   fun i hi=>⟨(World.cell?_of_block (a:=⟨q,1+i,none⟩) hb).trans (h.ch i hi).1,(World.frozen?_of_block (a:=⟨q,1+i,none⟩) hb).trans (h.ch i hi).2⟩,
   fun i hi=>⟨(World.cell?_of_block (a:=⟨q,9+i,none⟩) hb).trans (h.rs i hi).1,(World.frozen?_of_block (a:=⟨q,9+i,none⟩) hb).trans (h.rs i hi).2⟩⟩
theorem HB.up {k:IntKind} {w w':World} {q:Nat} {L:Int} {C:S8} {R:List Int} (h:HB k w q L C R) (n:Below w.heap.size w w'):HB k w' q L C R:=h.of_block (n.block q h.lt)
theorem HB.range {k:IntKind} {w:World} {q:Nat} {L:Int} {C:S8} {R:List Int} (h:HB k w q L C R):w.rangeAt q 0 (hcl k L C R):=by
  intro j v hv
  unfold hcl at hv
  cases j with
  | zero =>
    simp at hv
    subst hv
    exact h.c0
  | succ j =>
    rw [List.getElem?_cons_succ] at hv
    by_cases c:j < 8
    · rw [List.getElem?_append_left (by rw [List.length_map, S8.l_len]; exact c)] at hv
      rw [show 0+(j+1)=1+j by omega]
      exact h.ch.range j v hv
    · rw [List.getElem?_append_right (by rw [List.length_map, S8.l_len]; omega), List.length_map, S8.l_len] at hv
      rw [show 0+(j+1)=9+(j - 8) by omega]
      exact h.rs.range (j - 8) v hv
theorem HB.there {k:IntKind} {w:World} {q:Nat} {L:Int} {C:S8} {R:List Int} (h:HB k w q L C R):w.there q 0 137:=by
  intro j hj
  rw [Nat.zero_add]
  cases j with
  | zero=>exact ⟨by rw [h.c0];rfl,h.f0⟩
  | succ j =>
    by_cases c:j < 8
    · have := h.ch j (by rw [S8.l_len]; exact c)
      rw [show 1+j=j+1 by omega] at this
      exact ⟨by rw [this.1];rfl,this.2⟩
    · have := h.rs (j - 8) (by rw [h.len]; omega)
      rw [show 9+(j - 8)=j+1 by omega] at this
      exact ⟨by rw [this.1];rfl,this.2⟩
theorem HB.of_range {k:IntKind} {w:World} {q:Nat} {L:Int} {C:S8} {R:List Int} (hl:R.length=128) (rg:w.rangeAt q 0 (hcl k L C R)) (th:w.there q 0 137):HB k w q L C R:=by
 have f:∀ j,j < 137→w.frozen? ⟨q,j,none⟩=false:=fun j hj=>by have:=(th j hj).2;rwa [Nat.zero_add] at this
 refine ⟨hl,rg 0 _ rfl,f 0 (by omega),fun i hi=>⟨?_,f _ (by rw [S8.l_len] at hi;omega)⟩,fun i hi=>⟨?_,f _ (by omega)⟩⟩
 ·have := rg (i + 1) (.int k (C.l.getD i 0)) (by
   unfold hcl
   rw [List.getElem?_cons_succ,List.getElem?_append_left (by rw [List.length_map];exact hi)]
   simp [hi])
  rwa [show 0+(i+1)=1+i by omega] at this
 ·have := rg (i + 9) (.int .u8 (R.getD i 0)) (by
   unfold hcl
   rw [show i+9=(i+8)+1 by omega,List.getElem?_cons_succ,List.getElem?_append_right (by rw [List.length_map,S8.l_len];omega),List.length_map,S8.l_len,Nat.add_sub_cancel]
   simp [hi])
  rwa [show 0+(i+9)=9+i by omega] at this
theorem HB.alloc (k:IntKind) (w:World) (ty:TypeId) (L:Int) (C:S8) {R:List Int} (hl:R.length=128):HB k (w.alloc (.cells (hcl k L C R).toArray ty)) w.heap.size L C R:=by
 have hh:(w.alloc (.cells (hcl k L C R).toArray ty)).heap[w.heap.size]?=some (.cells (hcl k L C R).toArray ty (0,0)):=by
  show (w.heap.push _)[w.heap.size]?=_
  simp
 refine HB.of_range hl (fun j v hv=>?_) (fun j hj=>⟨?_,frozen_of_row _ _ _ _ _ hh⟩)
 ·rw [cell_of_row _ _ _ _ _ _ hh]
  simpa using hv
 ·rw [cell_of_row _ _ _ _ _ _ hh]
  have:=hcl_len k L C hl
  simp [this]
  omega
theorem HB.setL {k:IntKind} {w:World} {q:Nat} {L:Int} {C:S8} {R:List Int} (h:HB k w q L C R) (L':Int):HB k (w.setCell ⟨q,0,none⟩ (.int .i64 L')) q L' C R:=by
 refine ⟨h.len,World.cell?_setCell_same _ _ _ h.c0,by rw [frozen_setCell];exact h.f0,fun i hi=>⟨?_,by rw [frozen_setCell];exact (h.ch i hi).2⟩,fun i hi=>⟨?_,by rw [frozen_setCell];exact (h.rs i hi).2⟩⟩
 ·rw [World.cell?_setCell_other (h := fun h => by simp only [Addr.mk.injEq, true_and, and_true] at h; omega)]
  exact (h.ch i hi).1
 ·rw [World.cell?_setCell_other (h := fun h => by simp only [Addr.mk.injEq, true_and, and_true] at h; omega)]
  exact (h.rs i hi).1
theorem setCells_frozen (w:World) (q o:Nat) (vs:List Value) (a:Addr):(w.setCells q o vs).frozen? a=w.frozen? a:=World.frozen?_setCells q vs o w a
theorem cell_out {w:World} {q o:Nat} {vs:List Value} {j:Nat} {v:Value} (h:w.cell? ⟨q,j,none⟩=some v) (hj:j < o∨o+vs.length≤j):(w.setCells q o vs).cell? ⟨q,j,none⟩=some v:=by
 have:=World.rangeAt_setCells_apart (w:=w) (b':=q) (o':=j) (cs:=[v]) (fun i u hu=>by
  match i,hu with
  | 0,hu=>simp at hu;subst hu;exact h) q o vs (.inr (by rcases hj with hj | hj;exact .inl (by simp;omega);exact .inr (by omega)))
 exact this 0 v rfl
theorem HB.setC {k:IntKind} {w:World} {q:Nat} {L:Int} {C:S8} {R:List Int} (h:HB k w q L C R) (C':S8):HB k (w.setCells q 1 (C'.l.map (Value.int k))) q L C' R:=by
 have l8:(C'.l.map (Value.int k)).length=8:=by rw [List.length_map,S8.l_len]
 have sm:=World.rangeAt_setCells_same w q 1 (C'.l.map (Value.int k)) (by
  rw [l8]
  intro j hj
  have:=h.ch j (by rw [S8.l_len];exact hj)
  exact ⟨by rw [this.1];rfl,this.2⟩)
 refine ⟨h.len,cell_out h.c0 (.inl (by omega)),by rw [setCells_frozen];exact h.f0,fun i hi=>⟨?_,?_⟩,fun i hi=>⟨cell_out (h.rs i hi).1 (.inr (by rw [l8];omega)),by rw [setCells_frozen];exact (h.rs i hi).2⟩⟩
 ·exact sm i _ (by simp [hi])
 ·rw [setCells_frozen]
  exact (h.ch i (by rw [S8.l_len] at hi ⊢;exact hi)).2
def lay (R:List Int) (r:Nat) (xs:List Int):List Int:=R.take r ++ (xs ++ R.drop (r+xs.length))
theorem lay_len {R:List Int} {r:Nat} {xs:List Int} (h:r+xs.length≤R.length):(lay R r xs).length=R.length:=by
 unfold lay
 simp
 omega
theorem HB.setR {k:IntKind} {w:World} {q:Nat} {L:Int} {C:S8} {R:List Int} (h:HB k w q L C R) (r:Nat) (xs:List Int) (hr:r+xs.length≤128):HB k (w.setCells q (9+r) (xs.map (Value.int .u8))) q L C (lay R r xs):=by
 have hl:=h.len
 have lx:(xs.map (Value.int .u8)).length=xs.length:=List.length_map _
 have sm:=World.rangeAt_setCells_same w q (9+r) (xs.map (Value.int .u8)) (by
  rw [lx]
  intro j hj
  have:=h.rs (r+j) (by omega)
  rw [show 9+(r+j)=9+r+j by omega] at this
  exact ⟨by rw [this.1];rfl,this.2⟩)
 refine ⟨by rw [lay_len (by omega)];exact hl,cell_out h.c0 (.inl (by omega)),by rw [setCells_frozen];exact h.f0,fun i hi=>⟨cell_out (h.ch i hi).1 (.inl (by rw [S8.l_len] at hi;omega)),by rw [setCells_frozen];exact (h.ch i hi).2⟩,fun i hi=>?_⟩
 rw [lay_len (by omega)] at hi
 refine ⟨?_,by rw [setCells_frozen];exact (h.rs i hi).2⟩
 unfold lay
 have tl:(R.take r).length=r:=by rw [List.length_take];omega
 by_cases c1:i < r
 ·rw [getD_apd_left _ _ _ (by omega)]
  have e:(R.take r).getD i 0=R.getD i 0:=by rw [List.getD_eq_getElem?_getD,List.getD_eq_getElem?_getD,List.getElem?_take,if_pos c1]
  rw [e]
  exact cell_out (h.rs i hi).1 (.inl (by omega))
 ·rw [getD_apd_right _ _ _ (by omega), tl]
  by_cases c2:i - r < xs.length
  ·rw [getD_apd_left _ _ _ c2]
   have:=sm (i - r) (.int .u8 (xs.getD (i - r) 0)) (by simp [c2])
   rwa [show 9+r+(i - r)=9+i by omega] at this
  ·rw [getD_apd_right _ _ _ (by omega), List.getD_eq_getElem?_getD, List.getElem?_drop, show r + xs.length + (i - r - xs.length) = i by omega, ← List.getD_eq_getElem?_getD]
   exact cell_out (h.rs i hi).1 (.inr (by rw [lx];omega))
theorem only_setCells (w:World) (q:Nat):∀ (vs:List Value) (o:Nat),Only q w (w.setCells q o vs)
 | [],_=>Only.refl _ _
 | v :: vs,o=>(Only.setCell w q o v).trans (only_setCells (w.setCell ⟨q,o,none⟩ v) q vs (o+1))
structure Bth (q:Nat) (w w':World):Prop where
 os:w'.os=w.os
 tape:w'.tape=w.tape
 output:w'.output=w.output
 size:w.heap.size≤w'.heap.size
 block:∀ g,g < w.heap.size→g≠q→w'.heap[g]?=w.heap[g]?
theorem Bth.refl (q:Nat) (w:World):Bth q w w:=⟨rfl,rfl,rfl,Nat.le_refl _,fun _ _ _=>rfl⟩
theorem Bth.trans {q:Nat} {a b c:World} (h:Bth q a b) (k:Bth q b c):Bth q a c :=
 ⟨k.os.trans h.os,k.tape.trans h.tape,k.output.trans h.output,Nat.le_trans h.size k.size,fun g hg hq=>(k.block g (Nat.lt_of_lt_of_le hg h.size) hq).trans (h.block g hg hq)⟩
theorem Bth.of_below {q:Nat} {a b:World} (h:Below a.heap.size a b):Bth q a b:=⟨h.os,h.tape,h.output,h.size,fun g hg _=>h.block g hg⟩
theorem Bth.of_only {q:Nat} {a b:World} (h:Only q a b):Bth q a b:=⟨h.os,h.tape,h.output,Nat.le_of_eq h.size.symm,fun g _ hq=>h.block g hq⟩
theorem Bth.below {q B:Nat} {a b:World} (h:Bth q a b) (h1:B≤q) (h2:B≤a.heap.size):Below B a b:=⟨h.os,h.tape,h.output,h.size,fun g hg=>h.block g (by omega) (by omega)⟩
theorem HasT.bt {q g:Nat} {w w':World} {l:List Int} (h:HasT w g l) (hl:0 < l.length) (b:Bth q w w') (hq:g≠q):HasT w' g l:=h.of_block (b.block g (block_lt_of_cell (h 0 hl)) hq)
theorem Rd.bt {q g:Nat} {w w':World} {a:Option Addr} {k:IntKind} {xs:List Int} (h:Rd w g a k xs) (b:Bth q w w') (hq:g≠q):Rd w' g a k xs:=by
 by_cases h0:0 < xs.length
 ·exact h.of_block (b.block g (h.lt h0) hq)
 ·exact fun h1=>absurd h1 h0
theorem HB.of_seg {k:IntKind} {w w':World} {q:Nat} {L:Int} {C C':S8} {R:List Int} (h:HB k w q L C R) (x:SegX q 1 8 w w') (s:Seg w' q 1 k C'.l):HB k w' q L C' R :=
 ⟨h.len,(x.out 0 (.inl (by omega))).1.trans h.c0,(x.out 0 (.inl (by omega))).2.trans h.f0,s,fun i hi=>⟨(x.out (9+i) (.inr (by omega))).1.trans (h.rs i hi).1,(x.out (9+i) (.inr (by omega))).2.trans (h.rs i hi).2⟩⟩
theorem results_cell_m {P:Program} {fn:Func} {p:Tmp} {ty:TypeId} (h:fn.results = #[.cell p ty]) (tmps:Array Value) (w:World) (g:Nat) (cs:List Value) (d:TypeDesc)
  (hp:tmps.getD p undef = .pointer (some ⟨g,0,none⟩)) (hc:w.rangeAt g 0 cs) (hu:P.underlying ty=some d) (hd:d.isRow=true) (hi:(P.info? ty).map (·.size)=some cs.length) :
  (results fn tmps).run P w = .ok (.agg cs.toArray) w:=by
 have hp':tmps[p]?.getD undef = .pointer (some ⟨g,0,none⟩):=by simpa using hp
 simp [results,h,hp',asAddr,run_loadVar_mid w g 0 ty cs d hc hu hd hi]
theorem take_more {R:List Int} {r:Nat} {xs:List Int} (h:r≤R.length):(lay R r xs).take (r+xs.length)=R.take r ++ xs:=by
 unfold lay
 rw [← List.append_assoc]
 have:(R.take r ++ xs).length=r+xs.length:=by rw [List.length_append,List.length_take];omega
 rw [← this]
 exact List.take_left
theorem lay_byt {R:List Int} {r:Nat} {xs:List Int} (h:Byt R) (k:Byt xs):Byt (lay R r xs):=by
 refine byt_apd (fun j=>?_) (byt_apd k (fun j=>?_))
 ·rw [List.getD_eq_getElem?_getD, List.getElem?_take]
  split
  ·rw [← List.getD_eq_getElem?_getD]
   exact h j
  ·simp
 ·rw [List.getD_eq_getElem?_getD, List.getElem?_drop, ← List.getD_eq_getElem?_getD]
  exact h _
theorem byt_takeh {xs:List Int} (h:Byt xs) (n:Nat):Byt (xs.take n):=fun j=>by
 rw [List.getD_eq_getElem?_getD,List.getElem?_take]
 split
 ·rw [← List.getD_eq_getElem?_getD]
  exact h j
 ·simp
theorem rd_drop {w:World} {g o t:Nat} {xs:List Int} (h:Rd w g (some ⟨g,o,none⟩) .u8 xs):Rd w g (some ⟨g,o+t,none⟩) .u8 (xs.drop t):=by
 intro h0
 rw [List.length_drop] at h0
 obtain ⟨o',e,hc⟩:=h (by omega)
 simp only [Option.some.injEq,Addr.mk.injEq,true_and,and_true] at e
 subst e
 refine ⟨o+t,rfl,fun i hi=>?_⟩
 rw [List.length_drop] at hi
 have:=hc (t+i) (by omega)
 rw [List.getD_eq_getElem?_getD,List.getElem?_drop,← List.getD_eq_getElem?_getD,Nat.add_assoc]
 exact this
theorem und22h:Tryz.prog.underlying 22=some (.slice 5):=Tryz.underlying22
theorem s5:(Tryz.prog.info? 5).map (·.size)=some 1:=by kernel_rfl
theorem zero137 (k:IntKind):hcl k 0 ⟨0,0,0,0,0,0,0,0⟩ (List.replicate 128 0) = .int .i64 0 :: (List.replicate 8 (.int k 0) ++ List.replicate 128 (.int .u8 0)):=by
 unfold hcl
 rw [List.map_replicate]
 rfl
end Go.Proofs.YtnpolopcgmjmnaaGreatDoor
