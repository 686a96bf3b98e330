import Derived.Test.YtnpolopcgmjmnaaGreatDoorVF37
import Derived.Lib.AppendZeros
import Derived.Laws.Strings
import Derived.Lib.AppendZerosOnto
import Derived.Lib.Mul64
import Derived.Laws.Externs
namespace Go.Proofs.YtnpolopcgmjmnaaGreatDoor
set_option maxRecDepth 100000
open Go.RowKit
theorem str_data:∀ (xs:List Int) (acc:ByteArray),(xs.foldl (fun r n=>r.push (UInt8.ofNat n.toNat)) acc).data=acc.data ++ (xs.map (fun n=>UInt8.ofNat n.toNat)).toArray
  | [],acc=>by simp
  | x :: r, acc => by
    rw [List.foldl_cons,str_data r]
    simp [ByteArray.push]
theorem toList_inj {s t:ByteArray} (h:s.toList=t.toList):s=t:=by
 rw [ByteArray.toList_eq,ByteArray.toList_eq] at h
 have:=Array.ext' h
 cases s;cases t;simp_all
theorem str_inj {xs ys:List Int} (hx:Byt xs) (hy:Byt ys) (h:str xs=str ys):xs=ys:=by
 have h1:(xs.map (fun n=>UInt8.ofNat n.toNat))=(ys.map (fun n=>UInt8.ofNat n.toNat)):=by
  have:=congrArg ByteArray.data h
  unfold str at this
  rw [str_data,str_data] at this
  simpa using this
 have hl:xs.length=ys.length:=by have:=congrArg List.length h1;simpa using this
 refine eq_of_getD hl (fun i hi=>?_)
 have h2:(xs.map (fun n=>UInt8.ofNat n.toNat))[i]?=(ys.map (fun n=>UInt8.ofNat n.toNat))[i]?:=by rw [h1]
 have a:=hx i
 have b:=hy i
 have hi':i < ys.length:=by omega
 simp [hi,hi'] at h2 a b ⊢
 have h3:=congrArg UInt8.toNat h2
 simp at h3
 omega
end Go.Proofs.YtnpolopcgmjmnaaGreatDoor
namespace Go.Proofs.YtnpolopcgmjmnaaGreatDoor
set_option maxRecDepth 100000
open Go.RowKit
set_option maxHeartbeats 400000 in
theorem l1Same_same (w:World) (g g':Nat) (a b:Option Addr) (ca cb:Nat) (xs:List Int) (ha:Rd w g a .u8 xs) (hb:Rd w g' b .u8 xs) :
  Calls Tryz.prog 10 #[.slice a xs.length ca,.slice b xs.length cb] w fun e w'=>e = .returned (.bool true)∧w'=w:=by
 have h1:=conv_run w g a ca xs ha
 have h2:=conv_run w g' b cb xs hb
 generalize str xs=s at *
 go_enter Tryz.func10,Tryz.ntmps10
 go_wp2
 go_ret
 exact ⟨by simp,rfl⟩
set_option maxHeartbeats 1000000 in
theorem l1Same_diff (w:World) (g g':Nat) (a b:Option Addr) (ca cb:Nat) (xs ys:List Int) (ha:Rd w g a .u8 xs) (hb:Rd w g' b .u8 ys) (hx:Byt xs) (hy:Byt ys) (hne:xs≠ys) :
  Calls Tryz.prog 10 #[.slice a xs.length ca,.slice b ys.length cb] w fun e w'=>e = .returned (.bool false)∧w'=w:=by
 have h1:=conv_run w g a ca xs ha
 have h2:=conv_run w g' b cb ys hb
 have h3:str xs≠str ys:=fun h=>hne (str_inj hx hy h)
 clear hne
 generalize str xs=s at *
 generalize str ys=t at *
 have H3:=hide h3
 clear h3
 go_enter Tryz.func10,Tryz.ntmps10
 go_wp2
 go_ret
 have e:(s.toList == t.toList)=false:=by
  cases h:(s.toList == t.toList)
  ·rfl
  ·exact absurd (toList_inj (beq_iff_eq.1 h)) H3.out
 exact ⟨by rw [← e];rfl,rfl⟩
theorem l1Same_any (w:World) (g g':Nat) (a b:Option Addr) (ca cb:Nat) (xs ys:List Int) (ha:Rd w g a .u8 xs) (hb:Rd w g' b .u8 ys) (hx:Byt xs) (hy:Byt ys) :
  Calls Tryz.prog 10 #[.slice a xs.length ca,.slice b ys.length cb] w fun e w'=>e = .returned (.bool (decide (xs=ys)))∧w'=w:=by
 by_cases h:xs=ys
 ·subst h
  simpa using l1Same_same w g g' a b ca cb xs ha hb
 ·have := l1Same_diff w g g' a b ca cb xs ys ha hb hx hy h
  simpa [h] using this
theorem byt_inj {x y : Int} (hx : 0 ≤ x ∧ x < PP) (hy : 0 ≤ y ∧ y < PP) (h : fill (byt x) 32 = fill (byt y) 32) : x = y := by
  have hb:∀ i,i < 32→byt x i=byt y i:=fun i hi=>by
    rw [← fill_get (byt x) 32 i hi,h,fill_get _ _ _ hi]
  have key:∀ n,n≤32→x % 256 ^ n=y % 256 ^ n:=by
    intro n
    induction n with
    | zero=>intro _;simp
    | succ n ih =>
      intro hn
      have h1:=ih (by omega)
      have h2:=hb n (by omega)
      unfold byt at h2
      have s:∀ z:Int,z % 256 ^ (n+1)=z % 256 ^ n+256 ^ n*(z / 256 ^ n % 256):=fun z=>by
        have hA:(0:Int)≤256 ^ n:=Int.le_of_lt (p256_pos n)
        have e1:=Int.emod_def z (256 ^ n*256)
        rw [← Int.ediv_ediv_of_nonneg hA] at e1
        have e2:=Int.emod_def z (256 ^ n)
        have e3:=Int.emod_def (z / 256 ^ n) 256
        rw [Int.pow_succ,e1,e2,e3]
        generalize z / 256 ^ n / 256=u
        generalize z / 256 ^ n=v
        generalize (256:Int) ^ n=p
        grind
      rw [s,s,h1,h2]
  have h32:=key 32 (by omega)
  have e:(256:Int) ^ 32=115792089237316195423570985008687907853269984665640564039457584007913129639936:=by decide
  rw [e] at h32
  have hx':0≤x∧x < 57896044618658097711785492504343953926634992332820282019728792003956564819949:=hx
  have hy':0≤y∧y < 57896044618658097711785492504343953926634992332820282019728792003956564819949:=hy
  omega
end Go.Proofs.YtnpolopcgmjmnaaGreatDoor
namespace Go.Proofs.YtnpolopcgmjmnaaGreatDoor
set_option maxRecDepth 100000
open Go.RowKit
theorem rng16 {W:World} {g:Nat} {f:Nat→Int} (h:Blk W g .i64 (ls16 f)):W.rangeAt g 0 (a16 f).toList:=by
 intro j v hv
 have hj:j < 16:=by
  have:=(List.getElem?_eq_some_iff.1 hv).1
  simpa [ls16] using this
 have e:(a16 f).toList[j]?=some (Value.int .i64 (f j)):=by
  simp [ls16,hj]
 rw [e] at hv
 cases hv
 rw [Nat.zero_add,h.cell (by rw [ls16_len];exact hj),ls16_get _ hj]
theorem bytP (v:Int):Byt (fill (byt (v % PP)) 32):=by
 intro i
 by_cases hi:i < 32
 ·rw [fill_get _ _ _ hi];unfold byt;omega
 ·rw [List.getD_eq_getElem?_getD,List.getElem?_eq_none (by rw [fill_len];omega)];simp
set_option maxHeartbeats 4000000 in
theorem l2Same_any (w:World) (f h:Nat→Int) (hf:L16 f) (hh:L16 h) :
  Calls Tryz.prog 59 #[ag16 f,ag16 h] w fun r w'=>r = .returned (.bool (decide (s16 f 16 % PP=s16 h 16 % PP)))∧Below w.heap.size w w':=by
 show Calls Tryz.prog 59 #[.agg (a16 f),.agg (a16 h)] w fun r w'=>r = .returned (.bool (decide (s16 f 16 % PP=s16 h 16 % PP)))∧Below w.heap.size w w'
 have B0:Blk (w.alloc (.cells (a16 f) 36)) w.heap.size .i64 (ls16 f):=blk16 w 36 f
 have n0:Below w.heap.size w (w.alloc (.cells (a16 f) 36)):=(Below.refl _ _).alloc (Nat.le_refl _) _
 have s0:(w.alloc (.cells (a16 f) 36)).heap.size=w.heap.size+1:=by simp
 have B1:∀ w:World,Blk (w.alloc (.cells (a16 h) 36)) w.heap.size .i64 (ls16 h):=fun w=>blk16 w 36 h
 have n1:∀ w:World,Below w.heap.size w (w.alloc (.cells (a16 h) 36)):=fun w=>(Below.refl _ _).alloc (Nat.le_refl _) _
 have u50':=Go.Proofs.YtnpolopcgmjmnaaGreatDoor.u50
 have iA:(Tryz.prog.info? 36).map (·.size)=some (a16 f).toList.length:=by
  have:(a16 f).toList.length=16:=by simp [ls16]
  rw [this];exact i50
 have iB:(Tryz.prog.info? 36).map (·.size)=some (a16 h).toList.length:=by
  have:(a16 h).toList.length=16:=by simp [ls16]
  rw [this];exact i50
 have BYA:=fun W=>l2Bytes_any W f hf
 have BYB:=fun W=>l2Bytes_any W h hh
 have YA:=bytP (s16 f 16)
 have YB:=bytP (s16 h 16)
 have EQ:Hid (decide (fill (byt (s16 f 16 % PP)) 32=fill (byt (s16 h 16 % PP)) 32)=decide (s16 f 16 % PP=s16 h 16 % PP)):=by
  show _=_
  by_cases e:s16 f 16 % PP=s16 h 16 % PP
  ·rw [e];simp
  ·rw [decide_eq_false e, decide_eq_false]
   exact fun k=>e (byt_inj ⟨Int.emod_nonneg _ (by decide),Int.emod_lt_of_pos _ (by decide)⟩ ⟨Int.emod_nonneg _ (by decide),Int.emod_lt_of_pos _ (by decide)⟩ k)
 obtain ⟨db,hdb⟩:∃ b,b=decide (s16 f 16 % PP=s16 h 16 % PP):=⟨_,rfl⟩
 rw [← hdb] at EQ ⊢
 clear hdb
 generalize fill (byt (s16 f 16 % PP)) 32=xs at *
 generalize fill (byt (s16 h 16 % PP)) 32=ys at *
 have RB:=fun (W:World) (b:Blk W (w.heap.size+1) .i64 (ls16 h))=>rng16 b
 have RA:=fun (W:World) (b:Blk W w.heap.size .i64 (ls16 f))=>rng16 b
 simp only [show ag16 f = .agg (a16 f) from rfl] at BYA
 simp only [show ag16 h = .agg (a16 h) from rfl] at BYB
 generalize a16 f=A at *
 generalize a16 h=B at *
 go_enter Tryz.func59,Tryz.ntmps59
 go_upto_region 1 with fail
 generalize w.alloc (.cells A 36)=wa at *
 have B1':=B1 wa
 have n1':=n1 wa
 rw [s0] at B1'
 generalize wa.alloc (.cells B 36)=wn at *
 have E0:=B0.up n1'
 have N:=nxt n0 n1'
 clear B1 n1 B0 n0 n1' s0
 have CE:Hid (∀ W,Below wn.heap.size wn W→W.rangeAt w.heap.size 0 A.toList∧W.rangeAt (w.heap.size+1) 0 B.toList):=fun W n=>⟨RA W (E0.up n),RB W (B1'.up n)⟩
 have CA:Hid (∀ W,Below wn.heap.size wn W→Calls Tryz.prog 33 #[.agg A] W fun r w'=>∃ a c g,r = .returned (.slice a xs.length c)∧Own w' g a .u8 xs∧Below wn.heap.size wn w'∧Below W.heap.size W w'):=by
  intro W n
  refine (BYA W).mono ?_
  rintro r w' ⟨⟨a,c,g,he,o,_,_,_⟩,n'⟩
  exact ⟨a,c,g,he,o,nxt n n',n'⟩
 have CB:Hid (∀ W,Below wn.heap.size wn W→Calls Tryz.prog 33 #[.agg B] W fun r w'=>∃ a c g,r = .returned (.slice a ys.length c)∧Own w' g a .u8 ys∧Below wn.heap.size wn w'∧Below W.heap.size W w'):=by
  intro W n
  refine (BYB W).mono ?_
  rintro r w' ⟨⟨a,c,g,he,o,_,_,_⟩,n'⟩
  exact ⟨a,c,g,he,o,nxt n n',n'⟩
 have CS:Hid (∀ W g g' a b ca cb,Below wn.heap.size wn W→Own W g a .u8 xs→Own W g' b .u8 ys→Calls Tryz.prog 10 #[.slice a xs.length ca,.slice b ys.length cb] W fun r w'=>r = .returned (.bool db)∧Below wn.heap.size wn w'):=by
  intro W g g' a b ca cb n o o'
  refine (l1Same_any W g g' a b ca cb xs ys o.rd o'.rd YA YB).mono ?_
  rintro r w' ⟨rfl,rfl⟩
  exact ⟨by rw [EQ.out],n⟩
 have nd:Below wn.heap.size wn wn.drew:=(Below.refl _ _).drew
 clear BYA BYB RA RB E0 B1'
 refine wp_region_held_drew (S:=fun W=>W.rangeAt w.heap.size 0 A.toList∧W.rangeAt (w.heap.size+1) 0 B.toList) (by kernel_rfl) ((unhide CE) _ nd) (fun hH=>?_)
 refine wpAnyH_take (i:=0) (v := .agg A.toList.toArray) rfl (by kernel_rfl) (by kernel_rfl) (by kernel_rfl) (fun _ _ _ h=>h) (yieldsIf_load_mid (by rfl) 36 (.tmp 2) rfl w.heap.size 0 rfl A.toList (.array 16 2) (fun W h=>h.1) u50' rfl iA) hH ?_
 simp only [Act.put,List.setIfInBounds_toArray]
 refine wpAnyH_take (i:=2) (v := .agg B.toList.toArray) rfl (by kernel_rfl) (by kernel_rfl) (by kernel_rfl) (fun _ _ _ h=>h) (yieldsIf_load_mid (by rfl) 36 (.tmp 3) rfl (w.heap.size+1) 0 rfl B.toList (.array 16 2) (fun W h=>h.2) u50' rfl iB) hH ?_
 simp only [Act.put]
 refine wpAnyH_ready (rs:=[1]) (by kernel_rfl) (by simp) ?_
 refine AllReadyH.cons rfl (fun K1 hK1=>?_) AllReadyH.nil
 go_simp
 go_at_call 33
 refine ((unhide CA) _ nd).mono ?_
 rintro r wA ⟨aA,cA,gA,rfl,oA,nA,nA'⟩
 go_wp2_with fail
 refine hK1.out _ _ ((unhide CE) _ nA) (fun hH1=>?_)
 clear hK1
 refine wpAnyH_ready (rs:=[3]) (by kernel_rfl) (by simp) ?_
 refine AllReadyH.cons rfl (fun K2 hK2=>?_) AllReadyH.nil
 go_simp
 go_at_call 33
 refine ((unhide CB) _ nA).mono ?_
 rintro r wB ⟨aB,cB,gB,rfl,oB,nB,nB'⟩
 go_wp2_with fail
 refine hK2.out _ _ ((unhide CE) _ nB) (fun hH2=>?_)
 clear hK2
 refine wpAnyH_ready (rs:=[4]) (by kernel_rfl) (by simp) ?_
 refine AllReadyH.cons rfl (fun K3 hK3=>?_) AllReadyH.nil
 go_simp
 go_at_call 10
 refine ((unhide CS) _ gA gB aA aB cA cB nB (oA.up nB') oB).mono ?_
 rintro r wS ⟨rfl,nS⟩
 go_wp2_with fail
 refine hK3.out _ _ ((unhide CE) _ nS) (fun hH3=>?_)
 clear hK3
 refine wpAnyH_ready (rs:=[5]) (by kernel_rfl) (by simp) ?_
 refine AllReadyH.cons rfl (fun K4 hK4=>?_) AllReadyH.nil
 go_simp
 refine hK4.out _ _ ((unhide CE) _ nS) (fun hH4=>?_)
 clear hK4
 refine wpAnyH_done (by kernel_rfl) ?_ _
 have NS:=nxt N nS
 clear CA CB CS CE hH hH1 hH2 hH3 hH4
 go_wp2
 go_ret
 exact ⟨rfl,NS⟩
end Go.Proofs.YtnpolopcgmjmnaaGreatDoor
namespace Go.Proofs.YtnpolopcgmjmnaaGreatDoor
set_option maxRecDepth 100000
open Go.RowKit
theorem zeroCells_one (v:Value) (m:Nat):(Builtin.zeroCells #[v] m).toList=List.replicate m v:=by
 apply List.ext_getElem
 ·simp [Builtin.zeroCells]
 ·intro i h1 h2
  simp [Builtin.zeroCells,Nat.mod_one]
theorem run_append_room_zeros {P:Program} (w:World) (t tn ty e:TypeId) (i:TypeInfo) (z:Value) (kq kn:IntKind) (ht:P.underlying t=some (.slice e)) (htn:P.underlying tn=some (.int kn)) (hi:P.info? e=some i) (hz:i.zero=some z)
  (g sLen sCap:Nat) (cur:Array Value) (hg:w.heap[g]?=some (.cells cur e (0,0))) (m:Nat) (h0:0 < m) (hs:0 < i.size) (h1:∀ u ∈ (Builtin.zeroCells z.cells m).toList,u.oneCell'=true)
  (h63:(m:Int)≤9223372036854775807) (h48:m*i.bytes≤281474976710656) (hroom:sLen+m≤sCap) (hfit:sLen*i.size+(Builtin.zeroCells z.cells m).toList.length≤cur.size) :
  (Builtin.append_ #[t,tn] ty #[.slice (some ⟨g,0,none⟩) sLen sCap,.int kq m]).run P w =
   .ok (.slice (some ⟨g,0,none⟩) (sLen+m) sCap) (w.setRow g (cur.toList.take (sLen*i.size) ++ (Builtin.zeroCells z.cells m).toList ++ cur.toList.drop (sLen*i.size+(Builtin.zeroCells z.cells m).toList.length)).toArray):=by
 have hst:=run_storeCells_at P g (sLen*i.size) e (Builtin.zeroCells z.cells m).toList 0 cur w hg (by simpa using hfit) h1
 simp only [Nat.add_zero] at hst
 have hw:IntKind.i64.wrap (m:Int)=m:=by rw [IntKind.wrap_i64];omega
 have h48i:¬ (281474976710656 < (m:Int)*(i.bytes:Int)):=by
  rw [← Int.natCast_mul]
  omega
 have hneg:¬ ((m:Int) < 0):=by omega
 have hm:m≠0:=by omega
 have hns:¬ (m*i.size=0):=Nat.mul_ne_zero hm (by omega)
 simp [Builtin.append_,run_underlying ht,run_underlying htn,sizeOf,typeInfo,zeroValue,hi,hz,asInt,asIntOf,hw,hneg,hns,h48i,hroom,Addr.add_lit,hst]
theorem append_zeros_own {P : Program} (w : World) (t tn ty e : TypeId) (i : TypeInfo) (kq kn : IntKind) (ht : P.underlying t = some (.slice e)) (htn : P.underlying tn = some (.int kn)) (hi : P.info? e = some i) (hz : i.zero = some (.int .u8 0)) (hsize : i.size = 1) (hby : i.bytes = 1)
  (base:Nat) (v:Value) (n:Nat) (xs:List Value) (hown:w.ownsRow base e 1 v n xs) (hv:v ≠ .slice none 0 0) (m:Nat) (h0:0 < m) (hsm:n+m≤1048576) (hbase:base≤w.heap.size) :
  ∃ v' w',(Builtin.append_ #[t,tn] ty #[v,.int kq m]).run P w = .ok v' w'∧w'.ownsRow base e 1 v' (n+m) (xs ++ List.replicate m (.int .u8 0))∧w.grownBy w' v.ownBlock∧v' ≠ .slice none 0 0:=by
 have hzc:(Value.int .u8 0).cells = #[.int .u8 0]:=rfl
 have hzl:=zeroCells_one (.int .u8 0) m
 have hlen:(xs ++ List.replicate m (Value.int .u8 0)).length=(n+m)*1:=by rw [List.length_append,hown.1,List.length_replicate];omega
 rcases hown.2 with ⟨rfl,rfl⟩ | ⟨g,cap,cur,rfl,hbg,hg,hnc,hcm,hcs,htake⟩
 ·exact absurd rfl hv
 ·by_cases hroom : n + m ≤ cap
  ·have hr := run_append_room_zeros (P := P) w t tn ty e i (.int .u8 0) kq kn ht htn hi hz g n cap cur hg m h0 (by omega) (by rw [hzc, hzl]; intro u hu; rw [(List.mem_replicate.1 hu).2]; rfl) (by omega) (by rw [hby]; omega) hroom (by rw [hzc, hzl, hsize, List.length_replicate]; omega)
   rw [hzc,hzl,hsize,List.length_replicate] at hr
   refine ⟨_,_,hr,⟨hlen,.inr ⟨g,cap,_,rfl,hbg,setRow_heap w g cur _ e _ hg,hroom,hcm,?_,?_⟩⟩,⟨rfl,rfl,rfl,by simp,fun k _ hk=>setRow_other w g k _ (fun e=>hk (by simp [Value.ownBlock,e]))⟩,by simp⟩
   ·simp only [List.size_toArray, List.length_append, List.length_take, List.length_drop, Array.length_toList, List.length_replicate]
    omega
   ·rw [htake, ← hlen]
    exact List.take_left
  ·have holds : ∀ j u, xs[j]? = some u → w.drew.cell? ((⟨g, 0, none⟩ : Addr).add j) = some u := hown.cells (g := g) rfl
   have hf:=run_firstCells_some (P:=P) w.drew i.size n ⟨g,0,none⟩ n cap xs (by rw [hsize];exact hown.1) holds
   have hr:=Lib.run_append_grow_zeros (P:=P) w t tn ty e i (.int .u8 0) kq kn ht htn hi hz (some ⟨g,0,none⟩) n cap xs hf m h0 (by omega) (by omega) (by omega) (by rw [hby];omega) (growslice_fits (by omega) (by rw [hby];omega))
   have hge:=grownCap_ge w (n+m) cap e
   have hcm':grownCap w (n+m) cap e≤maxLen:=grownCap_le_maxLen w (n+m) cap e (by unfold maxLen;omega)
   refine ⟨_,_,hr,⟨hlen,.inr ⟨w.heap.size,_,_,rfl,hbase,_root_.Go.heap_alloc_new w.drew _,hge,hcm',?_,?_⟩⟩,⟨rfl,rfl,rfl,by simp,fun k hk _=>_root_.Go.heap_alloc_old w.drew _ hk⟩,by simp⟩
   ·have h1 := hown.1
    simp only [Array.size_append,List.size_toArray,size_zeroCells,hzc,h1]
    simp
    omega
   ·simp only [Array.toList_append, List.append_assoc]
    rw [← List.append_assoc,← hlen,hzc,hzl]
    exact List.take_left
end Go.Proofs.YtnpolopcgmjmnaaGreatDoor
namespace Go.Proofs.YtnpolopcgmjmnaaGreatDoor
set_option maxRecDepth 100000
abbrev QQ:Int:=7237005577332262213973186563042994240857116359379907606001950938285454250989
def W8 (D:Nat→Int):Prop:=∀ j,j < 8→0≤D j∧D j < 18446744073709551616
def dval (D:Nat→Int):Int:=wval D+(D 4+D 5*18446744073709551616+D 6*340282366920938463463374607431768211456+D 7*6277101735386680763835789423207666416102355444464034512896)*115792089237316195423570985008687907853269984665640564039457584007913129639936
def ac (n:Int) (s d:Nat→Int):Nat→Int
 | 0=>0
 | k+1=>(ac n s d k+n*s k+d k) / 18446744073709551616
def at8 (p:Nat) (n:Int) (s D:Nat→Int) (k j:Nat):Int :=
 if p≤j∧j < p+k then (ac n s (fun i=>D (p+i)) (j - p)+n*s (j - p)+D j) % 18446744073709551616 else D j
def adT (p:Nat) (n:Int) (s D:Nat→Int) (j:Nat):Int :=
 if j=p+4 then D j+ac n s (fun i=>D (p+i)) 4 else at8 p n s D 4 j
theorem mul_word {n x:Int} (hn:0≤n∧n < 18446744073709551616) (hx:0≤x∧x < 18446744073709551616):0≤n*x∧n*x≤340282366920938463426481119284349108225:=by
 refine ⟨Int.mul_nonneg hn.1 hx.1,?_⟩
 have h1:n*x≤18446744073709551615*x:=Int.mul_le_mul_of_nonneg_right (by omega) hx.1
 omega
theorem ac_bd {n:Int} {s d:Nat→Int} (hn:0≤n∧n < 18446744073709551616) (hs:W4 s):∀ k,k≤4→(∀ j,j < k→0≤d j∧d j < 18446744073709551616)→0≤ac n s d k∧ac n s d k < 18446744073709551616
  | 0,_,_=>by simp [ac]
  | k + 1, hk, hd => by
    have ih:=ac_bd hn hs k (by omega) (fun j hj=>hd j (by omega))
    have h1:=hd k (by omega)
    have h2:=mul_word hn (hs k (by omega))
    rw [ac]
    generalize n*s k=m at *
    omega
theorem ac_sum (n:Int) (s d:Nat→Int) :
  (ac n s d 0+n*s 0+d 0) % 18446744073709551616+(ac n s d 1+n*s 1+d 1) % 18446744073709551616*18446744073709551616+(ac n s d 2+n*s 2+d 2) % 18446744073709551616*340282366920938463463374607431768211456+(ac n s d 3+n*s 3+d 3) % 18446744073709551616*6277101735386680763835789423207666416102355444464034512896+ac n s d 4*115792089237316195423570985008687907853269984665640564039457584007913129639936=wval d+n*wval s:=by
 have e:n*wval s=n*s 0+n*s 1*18446744073709551616+n*s 2*340282366920938463463374607431768211456+n*s 3*6277101735386680763835789423207666416102355444464034512896:=by
  unfold wval
  simp only [Int.mul_add,Int.mul_assoc]
 rw [e]
 have h1:ac n s d 1=(ac n s d 0+n*s 0+d 0) / 18446744073709551616:=rfl
 have h2:ac n s d 2=(ac n s d 1+n*s 1+d 1) / 18446744073709551616:=rfl
 have h3:ac n s d 3=(ac n s d 2+n*s 2+d 2) / 18446744073709551616:=rfl
 have h4:ac n s d 4=(ac n s d 3+n*s 3+d 3) / 18446744073709551616:=rfl
 have h0:ac n s d 0=0:=rfl
 unfold wval
 generalize ac n s d 0=c0 at *
 generalize ac n s d 1=c1 at *
 generalize ac n s d 2=c2 at *
 generalize ac n s d 3=c3 at *
 generalize ac n s d 4=c4 at *
 generalize n*s 0=m0 at *
 generalize n*s 1=m1 at *
 generalize n*s 2=m2 at *
 generalize n*s 3=m3 at *
 omega
theorem adT_ok {p:Nat} {n:Int} {s D:Nat→Int} (hp:p≤3) (hn:0≤n∧n < 18446744073709551616) (hs:W4 s) (hD:W8 D) (ho:D (p+4)+ac n s (fun i=>D (p+i)) 4 < 18446744073709551616) :
  W8 (adT p n s D)∧dval (adT p n s D)=dval D+n*wval s*18446744073709551616 ^ p:=by
 have hb:=ac_bd (d:=fun i=>D (p+i)) hn hs 4 (by omega) (fun j hj=>hD (p+j) (by omega))
 have hS:=ac_sum n s (fun i=>D (p+i))
 refine ⟨fun j hj=>?_,?_⟩
 ·unfold adT at8
  have:=hD j hj
  split
  ·subst_vars;omega
  ·split
   ·omega
   ·exact this
 ·simp only [wval, Nat.add_zero] at hS
  have e:n*wval s=n*(s 0+s 1*18446744073709551616+s 2*340282366920938463463374607431768211456+s 3*6277101735386680763835789423207666416102355444464034512896):=rfl
  rw [← e] at hS
  generalize n*wval s=M at *
  obtain rfl | rfl | rfl | rfl:p=0∨p=1∨p=2∨p=3:=by omega
  all_goals
   simp [dval,wval,adT,at8] at hS ⊢
   omega
def lo4 (n:Int) (t:Nat→Int):Nat→Int
 | 0=>0
 | k+1=>(lo4 n t k+n*t k) / 18446744073709551616
def lb4 (n:Int) (s t:Nat→Int):Nat→Int
 | 0=>0
 | k+1=>if s k - (lo4 n t k+n*t k) % 18446744073709551616 - lb4 n s t k < 0 then 1 else 0
def ls4 (n:Int) (s t:Nat→Int) (k:Nat):Int:=(s k - (lo4 n t k+n*t k) % 18446744073709551616 - lb4 n s t k) % 18446744073709551616
def qc4 (u q:Nat→Int) (b:Int):Nat→Int
 | 0=>0
 | k+1=>(u k+q k*b+qc4 u q b k) / 18446744073709551616
def qs4 (u q:Nat→Int) (b:Int) (k:Nat):Int:=(u k+q k*b+qc4 u q b k) % 18446744073709551616
theorem lo4_bd {n:Int} {t:Nat→Int} (hn:0≤n∧n < 18446744073709551616) (ht:W4 t):∀ k,k≤4→0≤lo4 n t k∧lo4 n t k < 18446744073709551616
  | 0,_=>by simp [lo4]
  | k + 1, hk => by
    have ih:=lo4_bd hn ht k (by omega)
    have h2:=mul_word hn (ht k (by omega))
    rw [lo4]
    generalize n*t k=m at *
    omega
theorem lb4_bd (n:Int) (s t:Nat→Int):∀ k,lb4 n s t k=0∨lb4 n s t k=1
 | 0=>by simp [lb4]
 | k+1=>by rw [lb4];split <;> simp
theorem ls4_W4 (n:Int) (s t:Nat→Int):W4 (ls4 n s t):=fun k _=>by unfold ls4;omega
theorem qs4_W4 (u q:Nat→Int) (b:Int):W4 (qs4 u q b):=fun k _=>by unfold qs4;omega
theorem qc4_bd {u q:Nat→Int} {b:Int} (hu:W4 u) (hq:W4 q) (hb:b=0∨b=1):∀ k,k≤4→qc4 u q b k=0∨qc4 u q b k=1
  | 0,_=>by simp [qc4]
  | k + 1, hk => by
    have ih:=qc4_bd hu hq hb k (by omega)
    have h1:=hu k (by omega)
    have h2:=hq k (by omega)
    rw [qc4]
    rcases hb with rfl | rfl
    all_goals omega
theorem ls4_sum {n:Int} {s t:Nat→Int} (hs:W4 s):wval (ls4 n s t)=wval s - n*wval t+(lb4 n s t 4+lo4 n t 4)*115792089237316195423570985008687907853269984665640564039457584007913129639936:=by
 have e:n*wval t=n*t 0+n*t 1*18446744073709551616+n*t 2*340282366920938463463374607431768211456+n*t 3*6277101735386680763835789423207666416102355444464034512896:=by
  unfold wval
  simp only [Int.mul_add,Int.mul_assoc]
 rw [e]
 have h0:lo4 n t 0=0:=rfl
 have h1:lo4 n t 1=(lo4 n t 0+n*t 0) / 18446744073709551616:=rfl
 have h2:lo4 n t 2=(lo4 n t 1+n*t 1) / 18446744073709551616:=rfl
 have h3:lo4 n t 3=(lo4 n t 2+n*t 2) / 18446744073709551616:=rfl
 have h4:lo4 n t 4=(lo4 n t 3+n*t 3) / 18446744073709551616:=rfl
 have b0:lb4 n s t 0=0:=rfl
 have b1:lb4 n s t 1=if s 0 - (lo4 n t 0+n*t 0) % 18446744073709551616 - lb4 n s t 0 < 0 then 1 else 0:=rfl
 have b2:lb4 n s t 2=if s 1 - (lo4 n t 1+n*t 1) % 18446744073709551616 - lb4 n s t 1 < 0 then 1 else 0:=rfl
 have b3:lb4 n s t 3=if s 2 - (lo4 n t 2+n*t 2) % 18446744073709551616 - lb4 n s t 2 < 0 then 1 else 0:=rfl
 have b4:lb4 n s t 4=if s 3 - (lo4 n t 3+n*t 3) % 18446744073709551616 - lb4 n s t 3 < 0 then 1 else 0:=rfl
 have s0:=hs 0 (by omega);have s1:=hs 1 (by omega);have s2:=hs 2 (by omega);have s3:=hs 3 (by omega)
 have k1:=lb4_bd n s t 1;have k2:=lb4_bd n s t 2;have k3:=lb4_bd n s t 3
 unfold wval ls4
 generalize lo4 n t 0=c0 at *
 generalize lo4 n t 1=c1 at *
 generalize lo4 n t 2=c2 at *
 generalize lo4 n t 3=c3 at *
 generalize lo4 n t 4=c4 at *
 generalize lb4 n s t 0=d0 at *
 generalize lb4 n s t 1=d1 at *
 generalize lb4 n s t 2=d2 at *
 generalize lb4 n s t 3=d3 at *
 generalize lb4 n s t 4=d4 at *
 generalize n*t 0=m0 at *
 generalize n*t 1=m1 at *
 generalize n*t 2=m2 at *
 generalize n*t 3=m3 at *
 have one:∀ (x y b b':Int),0≤x∧x < 18446744073709551616→(b=0∨b=1)→b'=(if x - y % 18446744073709551616 - b < 0 then 1 else 0)→(x - y % 18446744073709551616 - b) % 18446744073709551616=x - y % 18446744073709551616 - b+b'*18446744073709551616:=by
  intro x y b b' hx hb hb'
  split at hb' <;> omega
 rw [one _ _ _ _ s0 (by omega) b1,one _ _ _ _ s1 k1 b2,one _ _ _ _ s2 k2 b3,one _ _ _ _ s3 k3 b4]
 clear b1 b2 b3 b4 one
 omega
theorem qs4_sum {u q:Nat→Int} {b:Int}:wval (qs4 u q b)+qc4 u q b 4*115792089237316195423570985008687907853269984665640564039457584007913129639936=wval u+wval q*b:=by
 have e:wval q*b=q 0*b+q 1*b*18446744073709551616+q 2*b*340282366920938463463374607431768211456+q 3*b*6277101735386680763835789423207666416102355444464034512896:=by
  unfold wval
  grind
 rw [e]
 have h0:qc4 u q b 0=0:=rfl
 have h1:qc4 u q b 1=(u 0+q 0*b+qc4 u q b 0) / 18446744073709551616:=rfl
 have h2:qc4 u q b 2=(u 1+q 1*b+qc4 u q b 1) / 18446744073709551616:=rfl
 have h3:qc4 u q b 3=(u 2+q 2*b+qc4 u q b 2) / 18446744073709551616:=rfl
 have h4:qc4 u q b 4=(u 3+q 3*b+qc4 u q b 3) / 18446744073709551616:=rfl
 unfold wval qs4
 generalize qc4 u q b 0=c0 at *
 generalize qc4 u q b 1=c1 at *
 generalize qc4 u q b 2=c2 at *
 generalize qc4 u q b 3=c3 at *
 generalize qc4 u q b 4=c4 at *
 generalize q 0*b=m0 at *
 generalize q 1*b=m1 at *
 generalize q 2*b=m2 at *
 generalize q 3*b=m3 at *
 omega
theorem lo4_all {n:Int} {t:Nat→Int}:lo4 n t 4=n*wval t / 115792089237316195423570985008687907853269984665640564039457584007913129639936:=by
 have e:n*wval t=n*t 0+n*t 1*18446744073709551616+n*t 2*340282366920938463463374607431768211456+n*t 3*6277101735386680763835789423207666416102355444464034512896:=by
  unfold wval
  simp only [Int.mul_add,Int.mul_assoc]
 rw [e]
 have h0:lo4 n t 0=0:=rfl
 have h1:lo4 n t 1=(lo4 n t 0+n*t 0) / 18446744073709551616:=rfl
 have h2:lo4 n t 2=(lo4 n t 1+n*t 1) / 18446744073709551616:=rfl
 have h3:lo4 n t 3=(lo4 n t 2+n*t 2) / 18446744073709551616:=rfl
 have h4:lo4 n t 4=(lo4 n t 3+n*t 3) / 18446744073709551616:=rfl
 generalize lo4 n t 0=c0 at *
 generalize lo4 n t 1=c1 at *
 generalize lo4 n t 2=c2 at *
 generalize lo4 n t 3=c3 at *
 generalize lo4 n t 4=c4 at *
 generalize n*t 0=m0 at *
 generalize n*t 1=m1 at *
 generalize n*t 2=m2 at *
 generalize n*t 3=m3 at *
 omega
theorem W4.bd {u:Nat→Int} (h:W4 u):0≤wval u∧wval u < 115792089237316195423570985008687907853269984665640564039457584007913129639936:=by
 have h0:=h 0 (by omega);have h1:=h 1 (by omega);have h2:=h 2 (by omega);have h3:=h 3 (by omega)
 unfold wval
 omega
def qw:Nat→Int
 | 0=>6346243789798364141
 | 1=>1503914060200516822
 | 2=>0
 | 3=>1152921504606846976
 | _=>0
theorem qw_val:wval qw=QQ:=by decide
theorem qw_W4:W4 qw:=by unfold W4;decide
def lsT (n:Int) (s t:Nat→Int):Nat→Int:=qs4 (ls4 n s t) qw (lb4 n s t 4)
theorem lsT_ok {n:Int} {s t:Nat→Int} (hn:0≤n∧n < 18446744073709551616) (hs:W4 s) (ht:W4 t) (h1:n*wval t < 115792089237316195423570985008687907853269984665640564039457584007913129639936) (h2:n*wval t≤wval s+QQ) :
  W4 (lsT n s t)∧wval (lsT n s t)=if wval s < n*wval t then wval s - n*wval t+QQ else wval s - n*wval t:=by
 refine ⟨qs4_W4 _ _ _,?_⟩
 have e1:=ls4_sum (n:=n) (t:=t) hs
 have e2:=qs4_sum (u:=ls4 n s t) (q:=qw) (b:=lb4 n s t 4)
 have b1:=(ls4_W4 n s t).bd
 have b2:=(qs4_W4 (ls4 n s t) qw (lb4 n s t 4)).bd
 have b3:=hs.bd
 have k:=lb4_bd n s t 4
 have c:=qc4_bd (b:=lb4 n s t 4) (ls4_W4 n s t) qw_W4 k 4 (by omega)
 have l:=lo4_all (n:=n) (t:=t)
 have m:0≤n*wval t:=Int.mul_nonneg hn.1 ht.bd.1
 rw [qw_val] at e2
 unfold lsT
 generalize wval (qs4 (ls4 n s t) qw (lb4 n s t 4))=r at *
 generalize qc4 (ls4 n s t) qw (lb4 n s t 4) 4=cc at *
 generalize wval (ls4 n s t)=v at *
 generalize n*wval t=M at *
 generalize wval s=x at *
 generalize lb4 n s t 4=b at *
 generalize lo4 n t 4=o at *
 have e3:o=0:=by omega
 subst e3
 simp only [QQ] at *
 split
 all_goals
  rcases k with rfl | rfl <;> rcases c with rfl | rfl <;> omega
def rdS (s:Nat→Int):Nat→Int:=lsT (s 3 / 1152921504606846976) s qw
theorem rdS_ok {s:Nat→Int} (hs:W4 s):W4 (rdS s)∧wval (rdS s)=wval s % QQ:=by
 have b:=hs.bd
 have h0:=hs 0 (by omega);have h1:=hs 1 (by omega);have h2:=hs 2 (by omega);have h3:=hs 3 (by omega)
 have e:s 3 / 1152921504606846976=wval s / 7237005577332262213973186563042994240857116359379907606001950938285454250989∨s 3 / 1152921504606846976=wval s / 7237005577332262213973186563042994240857116359379907606001950938285454250989+1:=by
  unfold wval;omega
 have e2:0≤s 3 / 1152921504606846976∧s 3 / 1152921504606846976≤15:=by omega
 obtain ⟨h,h'⟩:=lsT_ok (n:=s 3 / 1152921504606846976) (s:=s) (t:=qw) (by omega) hs qw_W4 (by rw [qw_val];simp only [QQ];omega) (by rw [qw_val];simp only [QQ];omega)
 refine ⟨h,?_⟩
 show wval (lsT _ _ _)=_
 rw [h',qw_val]
 generalize s 3 / 1152921504606846976=n at *
 generalize wval s=x at *
 clear h h' hs
 simp only [QQ]
 split <;> omega
def q16:Nat→Int
 | 0=>9306180268226068176
 | 1=>5615880889498717541
 | 2=>1
 | _=>0
theorem q16_val:wval q16=16*QQ - 115792089237316195423570985008687907853269984665640564039457584007913129639936:=by decide
theorem q16_W4:W4 q16:=by unfold W4;decide
def fw:Nat→Nat→Int
 | 0,0=>0xd6ec31748d98951d
 | 0,1=>0xc6ef5bf4737dcf70
 | 0,2=>0xfffffffffffffffe
 | 0,3=>0x0fffffffffffffff
 | 1,0=>0x5812631a5cf5d3ed
 | 1,1=>0x93b8c838d39a5e06
 | 1,2=>0xb2106215d086329a
 | 1,3=>0x0ffffffffffffffe
 | 2,0=>0x39822129a02a6271
 | 2,1=>0xb64a7f435e4fdd95
 | 2,2=>0x7ed9ce5a30a2c131
 | 2,3=>0x02106215d086329a
 | 3,0=>0x79daf520a00acb65
 | 3,1=>0xe24babbe38d1d7a9
 | 3,2=>0xb399411b7c309a3d
 | 3,3=>0x0ed9ce5a30a2c131
 | _,_=>0
theorem fw_W4 (i:Nat) (hi:i < 4):W4 (fw i):=by
 obtain rfl | rfl | rfl | rfl:i=0∨i=1∨i=2∨i=3:=by omega
 all_goals unfold W4;decide
def fd (D:Nat→Int):Nat→Nat→Int
 | 0,j=>if j < 4 then D j else 0
 | i+1,j=>adT 0 (D (4+i)) (fw i) (fd D i) j
theorem fd_step {D:Nat→Int} (hD:W8 D) (i:Nat) (hi:i < 4) (h:W8 (fd D i)∧fd D i 5=0∧fd D i 6=0∧fd D i 7=0) (hv:dval (fd D i)+D (4+i)*wval (fw i) < 2135987035920910082395021706169552114602704522356652769947041607822219725780640550022962086936576) :
  fd D i 4+ac (D (4+i)) (fw i) (fun j=>fd D i (0+j)) 4 < 18446744073709551616∧W8 (fd D (i+1))∧fd D (i+1) 5=0∧fd D (i+1) 6=0∧fd D (i+1) 7=0∧dval (fd D (i+1))=dval (fd D i)+D (4+i)*wval (fw i):=by
 obtain ⟨h1,h5,h6,h7⟩:=h
 have hn:=hD (4+i) (by omega)
 have hS:=ac_sum (D (4+i)) (fw i) (fun j=>fd D i (0+j))
 have ho:fd D i (0+4)+ac (D (4+i)) (fw i) (fun j=>fd D i (0+j)) 4 < 18446744073709551616:=by
  have e:wval (fun j=>fd D i (0+j))=wval (fd D i):=by unfold wval;simp
  rw [e] at hS
  unfold dval at hv
  rw [h5,h6,h7] at hv
  simp only [Nat.zero_add] at hS hv ⊢
  generalize D (4+i)*wval (fw i)=M at *
  generalize wval (fd D i)=v at *
  omega
 obtain ⟨a,b⟩:=adT_ok (p:=0) (by omega) hn (fw_W4 i hi) h1 ho
 rw [Int.pow_zero,Int.mul_one] at b
 refine ⟨by simpa using ho,a,?_,?_,?_,b⟩
 ·show adT 0 _ _ _ 5 = 0
  simp [adT,at8,h5]
 ·show adT 0 _ _ _ 6 = 0
  simp [adT,at8,h6]
 ·show adT 0 _ _ _ 7 = 0
  simp [adT,at8,h7]
theorem fd_zero {D:Nat→Int} (hD:W8 D):W8 (fd D 0)∧fd D 0 5=0∧fd D 0 6=0∧fd D 0 7=0∧dval (fd D 0)=wval D:=by
 refine ⟨fun j hj=>?_,rfl,rfl,rfl,?_⟩
 ·rw [fd]
  split
  ·exact hD j hj
  ·omega
 ·simp [dval,wval,fd]
theorem fd_all {D:Nat→Int} (hD:W8 D):(∀ i,i < 4→fd D i 4+ac (D (4+i)) (fw i) (fun j=>fd D i (0+j)) 4 < 18446744073709551616)∧(∀ i,i≤4→W8 (fd D i))∧fd D 4 5=0∧fd D 4 6=0∧fd D 4 7=0 ∧
  dval (fd D 4)=wval D+D 4*wval (fw 0)+D 5*wval (fw 1)+D 6*wval (fw 2)+D 7*wval (fw 3):=by
 obtain ⟨a1,a2,a3,a4,a5⟩:=fd_zero hD
 have d4:=hD (4+0) (by omega);have d5:=hD (4+1) (by omega);have d6:=hD (4+2) (by omega);have d7:=hD (4+3) (by omega)
 have v0:wval (fw 0)=7237005577332262213973186563042994240413239274941949949428319933631315875101:=by decide
 have v1:wval (fw 1)=7237005577332262205785099586231624600664197829225752203328093420762508415981:=by decide
 have v2:wval (fw 2)=933572209464014797850993495837617212577308338482798680094955262100143497841:=by decide
 have v3:wval (fw 3)=6717209884487221122130433782546922659424526032998609012467404696761183947621:=by decide
 have b:=W4.bd (u:=D) (fun j hj=>hD j (by omega))
 obtain ⟨o1,b1,b2,b3,b4,b5⟩:=fd_step hD 0 (by omega) ⟨a1,a2,a3,a4⟩ (by rw [a5,v0];omega)
 obtain ⟨o2,c1,c2,c3,c4,c5⟩:=fd_step hD 1 (by omega) ⟨b1,b2,b3,b4⟩ (by rw [b5,a5,v1,v0];omega)
 obtain ⟨o3,e1,e2,e3,e4,e5⟩:=fd_step hD 2 (by omega) ⟨c1,c2,c3,c4⟩ (by rw [c5,b5,a5,v2,v1,v0];omega)
 obtain ⟨o4,f1,f2,f3,f4,f5⟩:=fd_step hD 3 (by omega) ⟨e1,e2,e3,e4⟩ (by rw [e5,c5,b5,a5,v3,v2,v1,v0];omega)
 refine ⟨fun i hi=>?_,fun i hi=>?_,f2,f3,f4,by rw [f5,e5,c5,b5,a5]⟩
 ·obtain rfl | rfl | rfl | rfl : i = 0 ∨ i = 1 ∨ i = 2 ∨ i = 3 := by omega
  all_goals assumption
 ·obtain rfl | rfl | rfl | rfl | rfl : i = 0 ∨ i = 1 ∨ i = 2 ∨ i = 3 ∨ i = 4 := by omega
  all_goals assumption
def rdD (D:Nat→Int):Nat→Int:=rdS (lsT (fd D 4 4) (fd D 4) q16)
theorem lsT_fd {D:Nat→Int} (hD:W8 D):W4 (lsT (fd D 4 4) (fd D 4) q16)∧wval (lsT (fd D 4 4) (fd D 4) q16) % QQ=dval D % QQ:=by
 obtain ⟨_,h1,h5,h6,h7,h⟩:=fd_all hD
 have d4:=hD 4 (by omega);have d5:=hD 5 (by omega);have d6:=hD 6 (by omega);have d7:=hD 7 (by omega)
 have v0:wval (fw 0)=7237005577332262213973186563042994240413239274941949949428319933631315875101:=by decide
 have v1:wval (fw 1)=7237005577332262205785099586231624600664197829225752203328093420762508415981:=by decide
 have v2:wval (fw 2)=933572209464014797850993495837617212577308338482798680094955262100143497841:=by decide
 have v3:wval (fw 3)=6717209884487221122130433782546922659424526032998609012467404696761183947621:=by decide
 have b:=W4.bd (u:=D) (fun j hj=>hD j (by omega))
 have w8:=h1 4 (by omega)
 have w4:W4 (fd D 4):=fun j hj=>w8 j (by omega)
 have bb:=w4.bd
 have n4:=w8 4 (by omega)
 rw [v0,v1,v2,v3] at h
 have e:dval (fd D 4)=wval (fd D 4)+fd D 4 4*115792089237316195423570985008687907853269984665640564039457584007913129639936:=by
  unfold dval
  rw [h5,h6,h7]
  omega
 rw [e] at h
 obtain ⟨r1,r2⟩:=lsT_ok (n:=fd D 4 4) (s:=fd D 4) (t:=q16) n4 w4 q16_W4 (by rw [q16_val];simp only [QQ];omega) (by rw [q16_val];simp only [QQ];omega)
 refine ⟨r1,?_⟩
 rw [r2,q16_val]
 have ed:dval D=wval D+(D 4+D 5*18446744073709551616+D 6*340282366920938463463374607431768211456+D 7*6277101735386680763835789423207666416102355444464034512896)*115792089237316195423570985008687907853269984665640564039457584007913129639936:=rfl
 rw [ed]
 generalize wval (fd D 4)=x at *
 generalize fd D 4 4=n at *
 generalize wval D=y at *
 simp only [QQ]
 clear r1 r2 ed e w4 w8 h1 hD
 split <;> omega
theorem rdD_ok {D:Nat→Int} (hD:W8 D):W4 (rdD D)∧wval (rdD D)=dval D % QQ:=by
 obtain ⟨h1,h2⟩:=lsT_fd hD
 obtain ⟨h3,h4⟩:=rdS_ok h1
 exact ⟨h3,by rw [← h2];exact h4⟩
theorem wv_dval (a:Nat→Int):∀ i,i≤64→dval (wv a i)=lsum a i
  | 0,_=>by simp [dval,wval,wv,lsum]
  | i + 1, hi => by
    have ih:=wv_dval a i (by omega)
    have hp:(256:Int) ^ i=256 ^ (8*(i / 8))*256 ^ (i % 8):=by
      rw [← Int.pow_add,show 8*(i / 8)+i % 8=i by omega]
    rw [lsum,← ih,hp]
    unfold dval wval
    simp only [wv]
    generalize 256 ^ (i % 8)=q
    rcases (show i / 8=0∨i / 8=1∨i / 8=2∨i / 8=3∨i / 8=4∨i / 8=5∨i / 8=6∨i / 8=7 by omega) with e | e | e | e | e | e | e | e
    all_goals
      rw [e]
      simp
      try grind
end Go.Proofs.YtnpolopcgmjmnaaGreatDoor
namespace Go.Proofs.YtnpolopcgmjmnaaGreatDoor
set_option maxRecDepth 100000
open Go.RowKit
set_option maxHeartbeats 400000 in
theorem l1Copy_own (w:World) (g:Nat) (ad:Addr) (cap:Nat) (xs:List Int) (hr:Rd w g (some ad) .u8 xs) (hn:xs.length≤1048576) (h0:0 < xs.length) :
  Calls Tryz.prog 28 #[.slice (some ad) xs.length cap] w fun e w'=>∃ v,e = .returned v∧v ≠ .slice none 0 0∧w'.ownsRow w.heap.size 5 1 v xs.length (xs.map (Value.int .u8))∧Below w.heap.size w w':=by
 obtain ⟨i0,hi,hz0,hz1,hz2⟩:=info_parts Tryz.info5
 have hown:(w.alloc (.cells #[] 5)).ownsRow w.heap.size 5 1 (.slice (some ⟨w.heap.size,0,none⟩) 0 0) 0 []:=World.ownsRow_lit w #[] 0 (Nat.le_refl _) (by unfold maxLen;omega) (by simp)
 have hal:Below w.heap.size w (w.alloc (.cells #[] 5)):=(Below.refl _ _).alloc (Nat.le_refl _) _
 have hcell:∀ j u,(xs.map (Value.int .u8))[j]?=some u→(w.alloc (.cells #[] 5)).cell? (ad.add j)=some u:=by
  intro j u hj
  have hjl:j < xs.length:=by
   have:=(List.getElem?_eq_some_iff.1 hj).1
   simpa using this
  obtain ⟨off,ha,hcc⟩:=(hr.up hal) (by omega)
  simp only [Option.some.injEq] at ha
  subst ha
  rw [Addr.add_mid,hcc j hjl]
  simpa [hjl] using hj
 have hone:∀ u ∈ xs.map (Value.int .u8),u.oneCell'=true:=oneCells _ _
 go_enter Tryz.func28,Tryz.ntmps28
 go_wp2_with (at_builtin;refine wpList_append_own _ rfl _ _ 22 rfl w.heap.size 5 i0 (.int .u8 0) 1 1 Tryz.underlying22 hi hz0 hz1 hz2 rfl (by decide) (.slice (some ⟨w.heap.size,0,none⟩) 0 0) 0 [] rfl hown ad xs.length cap (xs.map (Value.int .u8)) rfl (by simp) hcell hone (by unfold maxLen;omega) (by omega) (by simp) ?_;intro v' w1 hown' hgrow hnil)
 simp only [Nat.zero_add,List.nil_append] at hown'
 have hB:Below w.heap.size w w1:=hal.grown hgrow (by simp) (by intro k hk;simp [Value.ownBlock] at hk;omega)
 have hv:v' ≠ .slice none 0 0:=fun h=>by have:=(hnil.1 h).1;simp at this
 clear hgrow hown hnil
 go_wp2
 go_ret
 exact ⟨_,rfl,hv,hown',hB⟩
theorem bval_zeros (xs:List Int):∀ m,bval (xs ++ List.replicate m 0)=bval xs*256 ^ m
  | 0=>by simp
  | m + 1 => by
    rw [List.replicate_succ',← List.append_assoc,bval_snoc,bval_zeros xs m,Int.pow_succ,Int.mul_assoc]
    omega
theorem byt_addz {xs:List Int} (h:Byt xs) (m:Nat):Byt (xs ++ List.replicate m 0):=by
 intro i
 by_cases e:i < xs.length
 ·have := h i
  simpa [List.getElem?_append,e] using this
 ·rw [List.getD_eq_getElem?_getD, List.getElem?_append, if_neg e, List.getElem?_replicate]
  split <;> simp
set_option maxHeartbeats 1000000 in
theorem l1Shift252_any (w:World) (g:Nat) (ad:Addr) (c:Nat) (xs:List Int) (ha:Rd w g (some ad) .u8 xs) (hb:Byt xs) (hl:xs.length≤64) (h0:0 < xs.length) :
  Calls Tryz.prog 54 #[.slice (some ad) xs.length c,.int .i64 252] w fun e w'=>∃ ys,Canon ys (bval xs*7237005577332262213973186563042994240829374041602535252466099000494570602496)∧NewRow w.heap.size w' e .u8 ys∧Below w.heap.size w w':=by
 obtain ⟨i0,hi,hz0,hz1,hz2⟩:=info_parts Tryz.info5
 go_enter Tryz.func54,Tryz.ntmps54
 go_wp2_with fail
 refine (l1Copy_own w g ad c xs ha (by omega) h0).mono ?_
 rintro e w1 ⟨v,rfl,hv,o1,n1⟩
 obtain ⟨v',w2,hap,o2,hgr,hv'⟩:=append_zeros_own (P:=Tryz.prog) w1 22 3 22 5 i0 .i64 .i64 Tryz.underlying22 Tryz.underlying3 hi hz0 hz1 hz2 w.heap.size v xs.length _ o1 hv 31 (by omega) (by omega) n1.size
 have n2:Below w.heap.size w w2:=n1.grown hgr (n1.size) (fun i hi=>(o1.lt i hi).1)
 have o2':w2.ownsRow w.heap.size 5 1 v' (xs ++ List.replicate 31 0).length ((xs ++ List.replicate 31 0).map (Value.int .u8)):=by simpa using o2
 obtain ⟨a3,c3,g3,rfl,o3,p3,q3,r3⟩:=Own.of_ownsRow o2'
 have V:=hide (bval_zeros xs 31)
 have Z:=byt_addz hb 31
 have L:(xs ++ List.replicate 31 (0:Int)).length≤128:=by simp;omega
 generalize xs ++ List.replicate 31 (0:Int)=zs at *
 clear o1 o2 o2' hgr hv hv'
 go_wp2_with (at_builtin;refine Lib.wpList_append_run _ rfl _ _ 22 3 rfl _ _ rfl rfl _ _ hap ?_)
 have n3:Below w2.heap.size w2 (w2.alloc (.cells #[.int .u8 16] 5)):=(Below.refl _ _).alloc (Nat.le_refl _) _
 have B2:Blk (w2.alloc (.cells #[.int .u8 16] 5)) w2.heap.size .u8 [16]:=⟨5,by rw [heap_alloc_last];rfl⟩
 generalize w2.alloc (.cells #[.int .u8 16] 5)=w4 at *
 have hb2:Byt [16]:=fun i=>by
  match i with
  | 0=>decide
  | i+1=>simp
 refine (l1Mul_any w4 g3 _ _ _ c3 1 zs [16] (o3.up n3).rd B2.own0.rd Z hb2 (by omega) (by decide)).mono ?_
 rintro e w5 ⟨ys,C,⟨a5,c5,g5,rfl,o5,p5,q5,r5⟩,n5⟩
 have N5:=nxt (nxt n2 n3) n5
 have z:=(nxt n2 n3).size
 have C':Canon ys (bval xs*7237005577332262213973186563042994240829374041602535252466099000494570602496):=by
  rw [V.out] at C
  have e1:bval [16]=16:=by decide
  have e2:(256:Int) ^ 31*16=7237005577332262213973186563042994240829374041602535252466099000494570602496:=by decide
  rw [e1,Int.mul_assoc,e2] at C
  exact C
 clear hap C
 go_wp2
 go_ret
 exact ⟨ys,C',⟨a5,c5,g5,rfl,o5,p5,q5,by omega⟩,N5⟩
def qdec:List Int:=[2,7,7,4,2,3,1,7,7,7,7,3,7,2,3,5,3,5,3,5,8,5,1,9,3,7,7,9,0,8,8,3,6,4,8,4,9,3]
def dec (ds:List Int) (k:Nat):Int:=(ds.take k).foldl (fun v d=>v*10+d) 0
theorem byt_one {d:Int} (h0:0≤d) (h1:d < 256):Byt [d]:=fun i=>by
 match i with
 | 0=>exact ⟨h0,h1⟩
 | i+1=>simp
theorem upb {w w':World} (n:Below w.heap.size w w') {g:Nat} {k:IntKind} {ys:List Int} (h:Blk w g k ys):Blk w' g k ys:=h.up n
theorem one_a (W:World) (d:Int):Blk (W.alloc (.cells #[.int .u8 d] 5)) W.heap.size .u8 [d]:=⟨5,by rw [heap_alloc_last];rfl⟩
theorem one_b (W:World) (d:Int) (o:Obj):Blk ((W.alloc (.cells #[.int .u8 d] 5)).alloc o) W.heap.size .u8 [d]:=(one_a W d).up ((Below.refl _ _).alloc (Nat.le_refl _) _)
theorem one_c (W:World) (d:Int) (o:Obj):Blk ((W.alloc o).alloc (.cells #[.int .u8 d] 5)) (W.heap.size+1) .u8 [d]:=by
 have h:=one_a (W.alloc o) d
 simpa using h
theorem dec_step (ds:List Int) (k:Nat) (h:k < ds.length):dec ds (k+1)=dec ds k*10+ds.getD k 0:=by
 unfold dec
 rw [List.take_succ_eq_append_getElem h,List.foldl_append]
 simp [h]
theorem qdec_dig:∀ k,k < 38→0≤qdec.getD k 0∧qdec.getD k 0≤9:=by decide
theorem dec_bd:∀ k,k≤38→0≤dec qdec k∧dec qdec k < 256 ^ 16:=by decide +kernel
theorem dec10_lt (k:Nat) (hk:k≤38):dec qdec k*10 < 256 ^ 64:=by
 have h:=dec_bd k hk
 have e:(256:Int) ^ 16*10 < 256 ^ 64:=by decide
 omega
theorem qdec_all:dec qdec 38=27742317777372353535851937790883648493:=by decide +kernel
def Txt (t:ByteArray) (ds:List Int):Prop:=t.size=ds.length∧∀ k,k < ds.length→∃ b:UInt8,t[k]?=some b∧(b.toNat:Int)=ds.getD k 0+48
set_option maxHeartbeats 1000000 in
theorem l1Decimal_any (w : World) (t : ByteArray) (ht : Txt t qdec) :
  Calls Tryz.prog 55 #[.string t] w fun e w'=>∃ ys,Canon ys 27742317777372353535851937790883648493∧NewRow w.heap.size w' e .u8 ys∧Below w.heap.size w w':=by
 have hs:t.size=38:=ht.1
 have hal:Below w.heap.size w (w.alloc (.cells #[] 5)):=(Below.refl _ _).alloc (Nat.le_refl _) _
 go_enter Tryz.func55,Tryz.ntmps55
 go_wp2
 go_loopw [3,4] (fun v i wr=>∃ (k:Nat) (a:Option Addr) (c g:Nat) (ys:List Int),k≤38∧i = .int .i64 k∧v = .slice a ys.length c∧Own wr g a .u8 ys∧Byt ys∧ys.length≤64∧bval ys=dec qdec k∧(a=none→c=0)∧ys.length≤c∧Below w.heap.size w wr) (fun _ i _=>38 - (intOf i).toNat)
 case atStart=>exact ⟨0,_,_,w.heap.size,[],by omega,rfl,rfl,Own.nil _ _ _ _,byt_nil,by simp,rfl,by simp,by simp,hal⟩
 case round =>
  obtain ⟨k,a,c,g,ys,hk,rfl,rfl,o,yb,yl,yv,p,q,hN⟩:=hrel
  by_cases hlt:k < 38
  ·have hd := qdec_dig k hlt
   obtain ⟨b,hx,hb⟩:=ht.2 k hlt
   have hst:=dec_step qdec k hlt
   have k1:(k:Int) < 38:=by omega
   have b10:=byt_one (d:=10) (by omega) (by omega)
   have bd:=byt_one (d:=qdec.getD k 0) (by omega) (by omega)
   have e10:bval [10]=10:=by decide
   have ed:bval [qdec.getD k 0]=qdec.getD k 0:=by simp [bval]
   generalize qdec.getD k 0=d at *
   have MU:Hid (∀ W b,Below wr.heap.size wr W→Blk W b .u8 [10]→Calls Tryz.prog 81 #[.slice a ys.length c,.slice (some ⟨b,0,none⟩) 1 1] W fun r w'=>∃ zs a' c' g',r = .returned (.slice a' zs.length c')∧Own w' g' a' .u8 zs∧Canon zs (dec qdec k*10)∧W.heap.size≤g'∧Below W.heap.size W w'):=by
    intro W b n B
    refine (l1Mul_any W g b a _ c 1 ys [10] (o.up n).rd B.own0.rd yb b10 (by omega) (by decide)).mono ?_
    rintro r w' ⟨zs,C,⟨a',c',g',rfl,o',p',q',r'⟩,n'⟩
    rw [e10,yv] at C
    exact ⟨zs,a',c',g',rfl,o',C,r',n'⟩
   have AD:Hid (∀ W b zs a' c' g',Own W g' a' .u8 zs→Canon zs (dec qdec k*10)→Blk W b .u8 [d]→Calls Tryz.prog 53 #[.slice a' zs.length c',.slice (some ⟨b,0,none⟩) 1 1] W fun r w'=>∃ us a' c' g',r = .returned (.slice a' us.length c')∧Own w' g' a' .u8 us∧Canon us (dec qdec (k+1))∧(a'=none→c'=0)∧us.length≤c'∧Below W.heap.size W w'):=by
    intro W b zs a' c' g' o' C' B
    have l':zs.length≤64:=C'.len (dec10_lt k hk)
    refine (l1Add_any W g' b a' _ c' 1 zs [d] o'.rd B.own0.rd C'.1 bd (by omega) (by simp)).mono ?_
    rintro r w' ⟨us,C,⟨a2,c2,g2,rfl,o2,p2,q2,r2⟩,n'⟩
    rw [ed,C'.2.1,← hst] at C
    exact ⟨us,a2,c2,g2,rfl,o2,C,p2,q2,n'⟩
   have hx2:t[k]'(by omega)=b:=by
    have h:=getElem?_pos t k (by omega)
    rw [hx] at h
    exact (Option.some.inj h).symm
   have hw:IntKind.u8.wrap (((t[k]'(by omega)).toNat:Int) - 48)=d:=by rw [hx2,IntKind.wrap_u8];omega
   have hwd:IntKind.u8.wrap d=d:=by rw [IntKind.wrap_u8];omega
   have nd:Below wr.heap.size wr wr.drew:=(Below.refl _ _).drew
   have nm:∀ W o,Below wr.heap.size wr W→Below wr.heap.size wr (W.alloc o):=fun W o n=>n.alloc n.size _
   clear hst yv yb b10 bd e10 ed
   go_wp2
   go_region_with
    (first
     | (go_at_call 81;refine ((unhide MU) _ _ (by first | exact nm _ _ nd | exact nm _ _ (nm _ _ nd)) (by first | exact one_a _ _ | exact one_b _ _ _ | exact one_c _ _ _)).mono ?_;rintro r ws ⟨zs,a1,c1,g1,rfl,o1,C1,r1,n1⟩)
     | (go_at_call 53;refine ((unhide AD) _ _ zs a1 c1 g1 (by first | exact o1 | exact o1.up ((Below.refl _ _).alloc (Nat.le_refl _) _)) C1 (by first | exact one_a _ _ | exact upb n1 (one_a _ _) | exact upb n1 (one_b _ _ _) | exact upb n1 (one_c _ _ _))).mono ?_;rintro r wt ⟨us,a2,c2,g2,rfl,o2,C2,p2,q2,n2⟩))
   all_goals
    have N2:Below w.heap.size w wt:=by
     first
      | exact nxt (nxt hN (nxt (nm _ _ (nm _ _ nd)) n1)) n2
      | exact nxt (nxt (nxt hN (nxt (nm _ _ nd) n1)) ((Below.refl _ _).alloc (Nat.le_refl _) _)) n2
    have L2:us.length≤64:=C2.len (Int.lt_trans (dec_bd (k+1) (by omega)).2 (by decide))
    clear MU AD n1 n2 hN o o1 C1 hx hx2 hw hwd nd nm
    go_wp2
    go_roundw
    case rel=>exact ⟨k+1,a2,c2,g2,us,by omega,by go_num,rfl,o2,C2.1,L2,C2.2.1,p2,q2,N2⟩
    case measure=>simp [intOf];omega
  ·obtain rfl : k = 38 := by omega
   rw [qdec_all] at yv
   go_wp2_with fail
   refine (l1Trim_any wr g a c ys o.rd yb p q (by omega)).mono ?_
   rintro e w2 ⟨zs,C,l2,⟨a2,c2,g2,rfl,o2,q1,q2,q3⟩,n2⟩
   rw [yv] at C
   have z:=hN.size
   have N2:=nxt hN n2
   go_wp2
   go_ret
   exact ⟨zs,C,⟨_,_,g2,rfl,o2,q1,q2,by omega⟩,N2⟩
end Go.Proofs.YtnpolopcgmjmnaaGreatDoor
namespace Go.Proofs.YtnpolopcgmjmnaaGreatDoor
set_option maxRecDepth 100000
def eRt:Nat:=7237005577332262213973186563042994240829374041602535252466099000494570602494
abbrev iM:Int:=19681161376707505956807079304988542015446066515923890162744021073123829784752
theorem iM_sq:iM*iM % PP=PP - 1:=by decide +kernel
theorem turn_sq (r:Int):(r*iM % PP)*(r*iM % PP) % PP=(0 - r*r) % PP:=by
 rw [← Int.mul_emod]
 have e:r*iM*(r*iM)=r*r*(iM*iM):=by grind
 rw [e]
 generalize r*r=s
 have h:iM*iM=PP*(iM*iM / PP)+(PP - 1):=by rw [← iM_sq];exact (Int.mul_ediv_add_emod _ _).symm
 rw [h]
 generalize iM*iM / PP=q
 have e2:s*(PP*q+(PP - 1))=(0 - s)+PP*(s*q+s):=by grind
 rw [e2,Int.add_mul_emod_self_left]
def rtR (A:Int):Int:=A ^ eRt % PP
def r1I (A:Int):Int:=if rtR A*rtR A % PP=(0 - A) % PP then rtR A*iM % PP else rtR A
def r1S (A:Int):Int:=if rtR A*rtR A % PP=A then rtR A else rtR A*iM % PP
theorem rtR_zero:rtR 0=0:=by
 unfold rtR
 rw [Int.zero_pow (by decide)]
 rfl
theorem neg_modP (x s:Int) (h:x % PP=s):(0 - x) % PP=(0 - s) % PP:=by
 rw [← h,Int.zero_sub,Int.zero_sub]
 have:=Int.mul_ediv_add_emod x PP
 have e : -x = -(x % PP)+PP*(-(x / PP)):=by
  generalize x / PP=q at *
  generalize x % PP=t at *
  subst this
  grind
 rw [e,Int.add_mul_emod_self_left]
theorem not1 {A s:Int} (h0:0≤A) (h1:A < PP) (hA:¬ A=0) (c:s=A):¬ s=(0 - A) % PP:=by
 subst c
 have e:(0 - s) % PP=PP - s:=by
  rw [show 0 - s=(PP - s)+PP*(-1) by generalize PP=P;omega,Int.add_mul_emod_self_left]
  exact Int.emod_eq_of_lt (by generalize PP=P at *;omega) (by generalize PP=P at *;omega)
 rw [e]
 intro h
 have h2:s+s=PP:=by generalize PP=P at *;omega
 have h3:(s+s) % 2=0:=by omega
 rw [h2] at h3
 exact absurd h3 (by decide)
theorem not2 {A s:Int} (h1:A < PP) (s0:0≤s) (s1:s < PP) (c:¬ s=(0 - A) % PP):¬ (0 - s) % PP=A:=by
 have h2:A < 57896044618658097711785492504343953926634992332820282019728792003956564819949:=h1
 have h3:s < 57896044618658097711785492504343953926634992332820282019728792003956564819949:=s1
 have h4:¬ s=(0 - A) % 57896044618658097711785492504343953926634992332820282019728792003956564819949:=c
 show ¬ (0 - s) % 57896044618658097711785492504343953926634992332820282019728792003956564819949=A
 omega
theorem same_root {A : Int} (h0 : 0 ≤ A) (h1 : A < PP) : (r1I A * r1I A % PP = A ↔ r1S A * r1S A % PP = A) ∧ (r1S A * r1S A % PP = A → r1I A = r1S A) := by
 unfold r1I r1S
 have ht:=turn_sq (rtR A)
 have hz:A=0→rtR A=0:=fun h=>by rw [h];exact rtR_zero
 generalize rtR A=r at *
 obtain ⟨s,hs⟩:∃ s,r*r % PP=s:=⟨_,rfl⟩
 have hs0:0≤s∧s < PP:=by rw [← hs];exact ⟨Int.emod_nonneg _ (by decide),Int.emod_lt_of_pos _ (by decide)⟩
 rw [neg_modP _ _ hs] at ht
 rw [hs]
 by_cases hA:A=0
 ·have hr := hz hA
  subst hr
  have e1:(0:Int)*iM % PP=0:=by rw [Int.zero_mul];rfl
  have e2:(0:Int)*0 % PP=0:=rfl
  have es:s=0:=by rw [← hs];rfl
  have ea:(0 - A) % PP=0:=by rw [hA];rfl
  rw [es,ea,hA,if_pos rfl,if_pos rfl,e1]
  exact ⟨Iff.rfl,fun _=>rfl⟩
 ·by_cases c1 : s = A
  ·rw [if_pos c1, if_neg (not1 h0 h1 hA c1), hs]
   exact ⟨Iff.rfl,fun _=>rfl⟩
  ·rw [if_neg c1, ht]
   by_cases c2:s=(0 - A) % PP
   ·rw [if_pos c2, ht]
    exact ⟨Iff.rfl,fun _=>rfl⟩
   ·rw [if_neg c2, hs]
    have n2:¬ ((0 - s) % PP=A):=not2 h1 hs0.1 hs0.2 c2
    exact ⟨⟨fun h=>absurd h c1,fun h=>absurd h n2⟩,fun h=>absurd h n2⟩
theorem rtR_bd (A:Int):0≤rtR A∧rtR A < PP:=by
 unfold rtR
 generalize A ^ eRt=x
 exact ⟨Int.emod_nonneg _ (by decide),Int.emod_lt_of_pos _ (by decide)⟩
theorem r1S_bd (A:Int):0≤r1S A∧r1S A < PP:=by
 unfold r1S
 split
 ·exact rtR_bd A
 ·generalize rtR A * iM = x
  exact ⟨Int.emod_nonneg _ (by decide),Int.emod_lt_of_pos _ (by decide)⟩
def fin2 (r:Int):Int:=if r % 2=0 then r else (0 - r) % PP
end Go.Proofs.YtnpolopcgmjmnaaGreatDoor
namespace Go.Proofs.YtnpolopcgmjmnaaGreatDoor
set_option maxRecDepth 100000
open Go.RowKit
set_option maxHeartbeats 1000000 in
theorem l1Shift253_any (w:World) (g:Nat) (ad:Addr) (c:Nat) (xs:List Int) (ha:Rd w g (some ad) .u8 xs) (hb:Byt xs) (hl:xs.length≤64) (h0:0 < xs.length) :
  Calls Tryz.prog 54 #[.slice (some ad) xs.length c,.int .i64 253] w fun e w'=>∃ ys,Canon ys (bval xs*14474011154664524427946373126085988481658748083205070504932198000989141204992)∧NewRow w.heap.size w' e .u8 ys∧Below w.heap.size w w':=by
 obtain ⟨i0,hi,hz0,hz1,hz2⟩:=info_parts Tryz.info5
 go_enter Tryz.func54,Tryz.ntmps54
 go_wp2_with fail
 refine (l1Copy_own w g ad c xs ha (by omega) h0).mono ?_
 rintro e w1 ⟨v,rfl,hv,o1,n1⟩
 obtain ⟨v',w2,hap,o2,hgr,hv'⟩:=append_zeros_own (P:=Tryz.prog) w1 22 3 22 5 i0 .i64 .i64 Tryz.underlying22 Tryz.underlying3 hi hz0 hz1 hz2 w.heap.size v xs.length _ o1 hv 31 (by omega) (by omega) n1.size
 have n2:Below w.heap.size w w2:=n1.grown hgr (n1.size) (fun i hi=>(o1.lt i hi).1)
 have o2':w2.ownsRow w.heap.size 5 1 v' (xs ++ List.replicate 31 0).length ((xs ++ List.replicate 31 0).map (Value.int .u8)):=by simpa using o2
 obtain ⟨a3,c3,g3,rfl,o3,p3,q3,r3⟩:=Own.of_ownsRow o2'
 have V:=hide (bval_zeros xs 31)
 have Z:=byt_addz hb 31
 have L:(xs ++ List.replicate 31 (0:Int)).length≤128:=by simp;omega
 generalize xs ++ List.replicate 31 (0:Int)=zs at *
 clear o1 o2 o2' hgr hv hv'
 go_wp2_with (at_builtin;refine Lib.wpList_append_run _ rfl _ _ 22 3 rfl _ _ rfl rfl _ _ hap ?_)
 have n3:Below w2.heap.size w2 (w2.alloc (.cells #[.int .u8 32] 5)):=(Below.refl _ _).alloc (Nat.le_refl _) _
 have B2:Blk (w2.alloc (.cells #[.int .u8 32] 5)) w2.heap.size .u8 [32]:=⟨5,by rw [heap_alloc_last];rfl⟩
 generalize w2.alloc (.cells #[.int .u8 32] 5)=w4 at *
 have hb2:Byt [32]:=fun i=>by
  match i with
  | 0=>decide
  | i+1=>simp
 refine (l1Mul_any w4 g3 _ _ _ c3 1 zs [32] (o3.up n3).rd B2.own0.rd Z hb2 (by omega) (by decide)).mono ?_
 rintro e w5 ⟨ys,C,⟨a5,c5,g5,rfl,o5,p5,q5,r5⟩,n5⟩
 have N5:=nxt (nxt n2 n3) n5
 have z:=(nxt n2 n3).size
 have C':Canon ys (bval xs*14474011154664524427946373126085988481658748083205070504932198000989141204992):=by
  rw [V.out] at C
  have e1:bval [32]=32:=by decide
  have e2:(256:Int) ^ 31*32=14474011154664524427946373126085988481658748083205070504932198000989141204992:=by decide
  rw [e1,Int.mul_assoc,e2] at C
  exact C
 clear hap C
 go_wp2
 go_ret
 exact ⟨ys,C',⟨a5,c5,g5,rfl,o5,p5,q5,by omega⟩,N5⟩
def R16 (W:World) (q:Nat) (t:Nat→Int):Prop:=W.rangeAt q 0 (a16 t).toList∧W.there q 0 16
theorem R16.lt {W:World} {q:Nat} {t:Nat→Int} (h:R16 W q t):q < W.heap.size:=by
 have h0:=(h.2 0 (by omega)).1
 rw [Option.isSome_iff_exists] at h0
 obtain ⟨v,hv⟩:=h0
 exact block_lt_of_cell hv
theorem R16.of_block {W W':World} {q:Nat} {t:Nat→Int} (h:R16 W q t) (hb:W'.heap[q]?=W.heap[q]?):R16 W' q t :=
 ⟨fun j v hv=>(World.cell?_of_block (a:=⟨q,0+j,none⟩) hb).trans (h.1 j v hv),fun j hj=>⟨by rw [World.cell?_of_block (a:=⟨q,0+j,none⟩) hb];exact (h.2 j hj).1,by rw [World.frozen?_of_block (a:=⟨q,0+j,none⟩) hb];exact (h.2 j hj).2⟩⟩
theorem R16.up {W W':World} {q:Nat} {t:Nat→Int} (h:R16 W q t) (n:Below W.heap.size W W'):R16 W' q t:=h.of_block (n.block q h.lt)
theorem there16 {W:World} {q:Nat} {f:Nat→Int} (h:Blk W q .i64 (ls16 f)):W.there q 0 16:=fun j hj =>
 ⟨by rw [Nat.zero_add,h.cell (by rw [ls16_len];exact hj)];rfl,h.free _⟩
theorem R16.ofBlk {W:World} {q:Nat} {f:Nat→Int} (h:Blk W q .i64 (ls16 f)):R16 W q f:=⟨rng16 h,there16 h⟩
theorem below_setCells {B:Nat} {w:World} {b:Nat} (hb:B≤b):∀ (vs:List Value) (o:Nat) (w':World),Below B w w'→Below B w (w'.setCells b o vs)
  | [],_,_,h=>h
  | v :: vs, o, w', h => by
    rw [World.setCells]
    exact below_setCells hb vs (o+1) _ (h.setCell hb v)
theorem setCells_other {b g:Nat} (hne:g≠b):∀ (vs:List Value) (o:Nat) (w:World),(w.setCells b o vs).heap[g]?=w.heap[g]?
  | [],_,_=>rfl
  | v :: vs, o, w => by
    rw [World.setCells,setCells_other hne vs (o+1)]
    exact heap_setCell_other w ⟨b,o,none⟩ g v hne
theorem R16.set {W : World} {q : Nat} (t : Nat → Int) (h : W.there q 0 16) : R16 (W.setCells q 0 (a16 t).toList) q t :=
  ⟨World.rangeAt_setCells_same W q 0 _ (by have : (a16 t).toList.length = 16 := by simp [ls16]
                                           rw [this];exact h),World.there_setCells h _ _ _⟩
theorem R16.keep {W:World} {q g:Nat} {t:Nat→Int} (h:R16 W g t) (vs:List Value) (hne:g≠q):R16 (W.setCells q 0 vs) g t:=h.of_block (setCells_other hne vs 0 W)
def eI:Nat:=14474011154664524427946373126085988481658748083205070504932198000989141204987
theorem pow_cast (e n i:Nat) (h:2 ^ e % n=i):(2:Int) ^ e % (n:Int)=(i:Int):=by
 rw [← h,Int.natCast_emod,Int.natCast_pow]
 rfl
theorem eI_pm:pm 57896044618658097711785492504343953926634992332820282019728792003956564819949 256 2 eI=19681161376707505956807079304988542015446066515923890162744021073123829784752:=by decide +kernel
theorem eI_lt:eI < 2 ^ 256:=by decide +kernel
theorem two_pow_i:(2:Int) ^ eI % PP=iM :=
 pow_cast eI 57896044618658097711785492504343953926634992332820282019728792003956564819949 _ ((pm_eq _ 256 2 eI eI_lt).symm.trans eI_pm)
end Go.Proofs.YtnpolopcgmjmnaaGreatDoor
namespace Go.Proofs.YtnpolopcgmjmnaaGreatDoor
set_option maxRecDepth 100000
open Go Go.RowKit
section
variable {P : Program} {ops : Array Oper} {Q : Exit → Act → World → Prop} {md : Region.Mode} {F : Nat → Fact} {a0 : Act} {w0 : World}
def RW (p:List Int→Prop):Fact:=⟨fun v w=>∃ (xs:List Int) (a:Option Addr) (c g:Nat),v = .slice a xs.length c∧Own w g a .u8 xs∧p xs,fun n h=>by
 obtain ⟨xs,a,c,g,e,o,q⟩:=h
 exact ⟨xs,a,c,g,e,o.up n,q⟩⟩
def EL (A:Int):Fact:=⟨fun v _=>∃ t,v=ag16 t∧L16 t∧s16 t 16 % PP=A % PP,fun _ h=>h⟩
def Elt (W:World) (q o:Nat) (A:Int):Prop:=∃ t,W.rangeAt q o (a16 t).toList∧q < W.heap.size∧L16 t∧s16 t 16 % PP=A % PP
theorem Elt.up {W W':World} {q o:Nat} {A:Int} (h:Elt W q o A) (n:Below W.heap.size W W'):Elt W' q o A:=by
 obtain ⟨t,r,l,h⟩:=h
 exact ⟨t,fun j v hv=>(World.cell?_of_block (a:=⟨q,o+j,none⟩) (n.block q l)).trans (r j v hv),Nat.lt_of_lt_of_le l n.size,h⟩
theorem Elt.ofR {W:World} {q:Nat} {t:Nat→Int} {A:Int} (h:R16 W q t) (L:L16 t) (V:s16 t 16 % PP=A % PP):Elt W q 0 A:=⟨t,h.1,h.lt,L,V⟩
theorem step_call {i:Nat} {o:Oper} (hi:ops[i]?=some o) (n:FuncId) (args:Array Operand) (ts:Array TypeId) (hop:o.op = .call { callee := .value (.func n),args:=args,argTypes:=ts }) (he:enters P n=true)
  (G:∀ a w,Based ops a0 a→Below w0.heap.size w0 w→Facts md ops F i a w→Calls P n (args.toList.map a.eval).toArray w fun e w'=>∃ v,e = .returned v∧Below w.heap.size w w'∧(F i).p v w'):StepOk P md ops Q F a0 w0 i:=by
 intro o' ho' a w hb hw hf K hK
 obtain rfl:=Option.some.inj (hi.symm.trans ho')
 have hr:(execOp a.eval o).run P w = .ok (.enter n (args.map a.eval)) w:=by
  have h0:(Deferred.ofValue (Value.func (Fn.func n) #[] #[]) (args.map a.eval)).run P w = .ok { target := .fn (.func n) #[],args:=args.map a.eval } w:=by simp [Deferred.ofValue]
  simp [execOp,hop,resolve,invoke,Act.eval,h0,run_enter he]
 have e:args.map a.eval=(args.toList.map a.eval).toArray:=by cases args;simp
 unfold Oper.wp
 rw [hr,e,Oper.upon_enter]
 refine (G a w hb hw hf).mono ?_
 rintro e w' ⟨v,rfl,hn,hv⟩
 exact hK v w' hn hv
theorem step_el {i:Nat} {o:Oper} (hi:ops[i]?=some o) (ty:TypeId) (p:Nat) (hop:o.op = .load ty (.tmp p)) (hu:P.underlying ty=some (.array 16 2)) (hs:(P.info? ty).map (·.size)=some 16)
  (hp:apart ops p=true) (q off:Nat) (h0:a0.tmps.getD p undef = .pointer (some ⟨q,off,none⟩)) (A:Int) (hE:Elt w0 q off A) (hF:F i=EL A):StepOk P md ops Q F a0 w0 i:=by
 refine step_load hi ty _ hop _ 16 hu rfl hs fun a w hb hw _=>?_
 obtain ⟨t,r,_,L,V⟩:=hE.up hw
 exact ⟨q,off,_,(based_at hb p hp).trans h0,r,by simp [ls16],by rw [hF];exact ⟨t,rfl,L,V⟩⟩
theorem step_elf {i:Nat} {o:Oper} (hi:ops[i]?=some o) (ty:TypeId) (p j:Nat) (hop:o.op = .load ty (.tmp p)) (hu:P.underlying ty=some (.array 16 2)) (hs:(P.info? ty).map (·.size)=some 16)
  (hj:waits md ops i j p=true) (q off:Nat) (hFj:F j=Fact.eq (.pointer (some ⟨q,off,none⟩))) (A:Int) (hE:Elt w0 q off A) (hF:F i=EL A):StepOk P md ops Q F a0 w0 i:=by
 refine step_load hi ty _ hop _ 16 hu rfl hs fun a w _ hw hf=>?_
 obtain ⟨t,r,_,L,V⟩:=hE.up hw
 have e:=hf j p hj
 rw [hFj] at e
 exact ⟨q,off,_,e,r,by simp [ls16],by rw [hF];exact ⟨t,rfl,L,V⟩⟩
theorem step_fld {i:Nat} {o:Oper} (hi:ops[i]?=some o) (ty:TypeId) (p f:Nat) (hop:o.op = .fieldAddr ty (.tmp p) f) (hp:apart ops p=true) (q off:Nat) (h0:a0.tmps.getD p undef = .pointer (some ⟨q,0,none⟩))
  (hr:∀ w,(Instr.fieldAt ty (.pointer (some ⟨q,0,none⟩)) f).run P w = .ok (.pointer (some ⟨q,off,none⟩)) w) (hF:F i=Fact.eq (.pointer (some ⟨q,off,none⟩))):StepOk P md ops Q F a0 w0 i:=by
 refine step_pure hi fun a w hb _ _=>⟨_,?_,by rw [hF];exact rfl⟩
 have e:=(based_at hb p hp).trans h0
 simp [execOp,hop,e,hr]
theorem step_two {i:Nat} {o:Oper} (hi:ops[i]?=some o) (n:FuncId) (p q:Nat) (ts:Array TypeId) (hop:o.op = .call { callee := .value (.func n),args := #[.tmp p,.tmp q],argTypes:=ts }) (he:enters P n=true)
  (f:Int→Int→Int) (law:∀ (w:World) (a b:Nat→Int),L16 a→L16 b→Calls P n #[ag16 a,ag16 b] w fun r w'=>∃ t,r = .returned (ag16 t)∧L16 t∧s16 t 16 % PP=f (s16 a 16) (s16 b 16) % PP∧Below w.heap.size w w')
  (hf:∀ a b A B:Int,a % PP=A % PP→b % PP=B % PP→f a b % PP=f A B % PP)
  (j k:Nat) (A B:Int) (hj:waits md ops i j p=true) (hk:waits md ops i k q=true) (hFj:F j=EL A) (hFk:F k=EL B) (hFi:F i=EL (f A B)):StepOk P md ops Q F a0 w0 i:=by
 refine step_call hi n _ ts hop he fun a w _ _ hF=>?_
 have ea:=hF j p hj
 have eb:=hF k q hk
 rw [hFj] at ea
 rw [hFk] at eb
 obtain ⟨t,e1,L1,V1⟩:=ea
 obtain ⟨u,e2,L2,V2⟩:=eb
 show Calls P n #[a.tmps.getD p undef,a.tmps.getD q undef] w _
 rw [e1,e2]
 refine (law w t u L1 L2).mono ?_
 rintro r w' ⟨s,rfl,L,V,hn⟩
 exact ⟨_,rfl,hn,by rw [hFi];exact ⟨s,rfl,L,by rw [V];exact hf _ _ _ _ V1 V2⟩⟩
theorem step_one {i:Nat} {o:Oper} (hi:ops[i]?=some o) (n:FuncId) (p:Nat) (ts:Array TypeId) (hop:o.op = .call { callee := .value (.func n),args := #[.tmp p],argTypes:=ts }) (he:enters P n=true)
  (f:Int→Int) (law:∀ (w:World) (a:Nat→Int),L16 a→Calls P n #[ag16 a] w fun r w'=>∃ t,r = .returned (ag16 t)∧L16 t∧s16 t 16 % PP=f (s16 a 16) % PP∧Below w.heap.size w w')
  (hf:∀ a A:Int,a % PP=A % PP→f a % PP=f A % PP)
  (j:Nat) (A:Int) (hj:waits md ops i j p=true) (hFj:F j=EL A) (hFi:F i=EL (f A)):StepOk P md ops Q F a0 w0 i:=by
 refine step_call hi n _ ts hop he fun a w _ _ hF=>?_
 have ea:=hF j p hj
 rw [hFj] at ea
 obtain ⟨t,e1,L1,V1⟩:=ea
 show Calls P n #[a.tmps.getD p undef] w _
 rw [e1]
 refine (law w t L1).mono ?_
 rintro r w' ⟨s,rfl,L,V,hn⟩
 exact ⟨_,rfl,hn,by rw [hFi];exact ⟨s,rfl,L,by rw [V];exact hf _ _ V1⟩⟩
end
abbrev zObj:Obj := .cells #[.int .i64 0,.int .i64 0,.int .i64 0,.int .i64 0,.int .i64 0,.int .i64 0,.int .i64 0,.int .i64 0,.int .i64 0,.int .i64 0,.int .i64 0,.int .i64 0,.int .i64 0,.int .i64 0,.int .i64 0,.int .i64 0] 36
theorem blk_zObj (W:World):Blk (W.alloc zObj) W.heap.size .i64 (ls16 (fun _=>0)):=by
 have h:=blk16 W 36 (fun _=>0)
 exact h
theorem mod_mul {a b A B:Int} (h:a % PP=A % PP) (k:b % PP=B % PP):a*b % PP=A*B % PP:=by rw [Int.mul_emod,h,k,← Int.mul_emod]
theorem mod_add {a b A B:Int} (h:a % PP=A % PP) (k:b % PP=B % PP):(a+b) % PP=(A+B) % PP:=by rw [Int.add_emod,h,k,← Int.add_emod]
theorem mod_sub {a b A B:Int} (h:a % PP=A % PP) (k:b % PP=B % PP):(a - b) % PP=(A - B) % PP:=by rw [Int.sub_emod,h,k,← Int.sub_emod]
theorem en_mul:enters Tryz.prog 34=true:=by kernel_rfl
theorem en_add:enters Tryz.prog 43=true:=by kernel_rfl
theorem en_sub:enters Tryz.prog 41=true:=by kernel_rfl
theorem en_small:enters Tryz.prog 21=true:=by kernel_rfl
section
variable {ops : Array Oper} {Q : Exit → Act → World → Prop} {md : Region.Mode} {F : Nat → Fact} {a0 : Act} {w0 : World} {i : Nat} {o : Oper} {ts : Array TypeId}
theorem step_mul (hi:ops[i]?=some o) (p q j k:Nat) (A B:Int) (hop:o.op = .call { callee := .value (.func 34),args := #[.tmp p,.tmp q],argTypes:=ts })
  (hj:waits md ops i j p=true) (hk:waits md ops i k q=true) (hFj:F j=EL A) (hFk:F k=EL B) (hFi:F i=EL (A*B)):StepOk Tryz.prog md ops Q F a0 w0 i :=
 step_two hi _ p q ts hop en_mul (fun a b=>a*b) (fun w a b ha hb=>l2Mul_any w a b ha hb) (fun _ _ _ _ h k=>mod_mul h k) j k A B hj hk hFj hFk hFi
theorem step_add (hi:ops[i]?=some o) (p q j k:Nat) (A B:Int) (hop:o.op = .call { callee := .value (.func 43),args := #[.tmp p,.tmp q],argTypes:=ts })
  (hj:waits md ops i j p=true) (hk:waits md ops i k q=true) (hFj:F j=EL A) (hFk:F k=EL B) (hFi:F i=EL (A+B)):StepOk Tryz.prog md ops Q F a0 w0 i :=
 step_two hi _ p q ts hop en_add (fun a b=>a+b) (fun w a b ha hb=>l2Add_any w a b ha hb) (fun _ _ _ _ h k=>mod_add h k) j k A B hj hk hFj hFk hFi
theorem step_sub (hi:ops[i]?=some o) (p q j k:Nat) (A B:Int) (hop:o.op = .call { callee := .value (.func 41),args := #[.tmp p,.tmp q],argTypes:=ts })
  (hj:waits md ops i j p=true) (hk:waits md ops i k q=true) (hFj:F j=EL A) (hFk:F k=EL B) (hFi:F i=EL (A - B)):StepOk Tryz.prog md ops Q F a0 w0 i :=
 step_two hi _ p q ts hop en_sub (fun a b=>a - b) (fun w a b ha hb=>l2Sub_any w a b ha hb) (fun _ _ _ _ h k=>mod_sub h k) j k A B hj hk hFj hFk hFi
theorem step_small (hi:ops[i]?=some o) (n:Int) (hn:0≤n∧n < 1048576) (hop:o.op = .call { callee := .value (.func 21),args := #[.const (.int .i64 n)],argTypes:=ts })
  (hFi:F i=EL n):StepOk Tryz.prog md ops Q F a0 w0 i:=by
 refine step_call hi _ _ ts hop en_small fun a w _ _ _=>?_
 refine (l2SmallB_any w n hn).mono ?_
 rintro r w' ⟨s,rfl,L,V,hb⟩
 exact ⟨_,rfl,hb,by rw [hFi];exact ⟨s,rfl,L,V⟩⟩
end
end Go.Proofs.YtnpolopcgmjmnaaGreatDoor
namespace Go.Proofs.YtnpolopcgmjmnaaGreatDoor
set_option maxRecDepth 100000
open Go Go.RowKit
def eIv:Nat:=57896044618658097711785492504343953926634992332820282019728792003956564819947
theorem en_prime:enters Tryz.prog 56=true:=by kernel_rfl
theorem en_l1Sub:enters Tryz.prog 61=true:=by kernel_rfl
theorem en_power:enters Tryz.prog 60=true:=by kernel_rfl
theorem pbytes_cn:Canon pbytes 57896044618658097711785492504343953926634992332820282019728792003956564819949:=⟨pbytes_byt,pbytes_val,fun _=>by decide⟩
theorem canon_ge1 {xs:List Int} {v:Int} (h:Canon xs v) (hv:0 < v):1≤xs.length:=by
 rcases Nat.eq_zero_or_pos xs.length with e | e
 ·rw [List.length_eq_zero_iff] at e
  subst e
  have:=h.2.1
  simp [bval] at this
  omega
 ·omega
theorem canon_nat {ys:List Int} {n:Nat} (h:Canon ys (n:Int)):(bval ys).toNat=n:=by rw [h.2.1];rfl
theorem pow_mod {x y:Int} (h:x % PP=y % PP):∀ e:Nat,x ^ e % PP=y ^ e % PP
 | 0=>by simp
 | e+1=>by rw [Int.pow_succ,Int.pow_succ];exact mod_mul (pow_mod h e) h
theorem results_cell_mid {P:Program} {fn:Func} {p:Tmp} {ty:TypeId} (h:fn.results = #[.cell p ty]) (tmps:Array Value) (w:World) (g:Nat) (cs:List Value) (d:TypeDesc)
  (hp:tmps.getD p undef = .pointer (some ⟨g,0,none⟩)) (hc:w.rangeAt g 0 cs) (hu:P.underlying ty=some d) (hd:d.isRow=true) (hi:(P.info? ty).map (·.size)=some cs.length) :
  (results fn tmps).run P w = .ok (.agg cs.toArray) w:=by
 have hp':tmps[p]?.getD undef = .pointer (some ⟨g,0,none⟩):=by simpa using hp
 simp [results,h,hp',asAddr,run_loadVar_mid w g 0 ty cs d hc hu hd hi]
def fIv (A:Int):Nat→Fact:=fun i=>[EL A,RW (fun xs=>Canon xs 57896044618658097711785492504343953926634992332820282019728792003956564819949),RW (fun xs=>xs=[2]),RW (fun xs=>Canon xs (eIv:Int)),EL (A ^ eIv)].getD i Fact.no
set_option maxHeartbeats 1000000 in
theorem l2Inv_any (w : World) (f : Nat → Int) (hf : L16 f) :
  Calls Tryz.prog 32 #[ag16 f] w fun r w'=>∃ t,r = .returned (ag16 t)∧L16 t∧s16 t 16 % PP=s16 f 16 ^ eIv % PP∧Below w.heap.size w w':=by
 show Calls Tryz.prog 32 #[.agg (a16 f)] w fun r w'=>∃ t,r = .returned (.agg (a16 t))∧L16 t∧s16 t 16 % PP=s16 f 16 ^ eIv % PP∧Below w.heap.size w w'
 have B0:Blk (w.alloc (.cells (a16 f) 36)) w.heap.size .i64 (ls16 f):=blk16 w 36 f
 have n0:Below w.heap.size w (w.alloc (.cells (a16 f) 36)):=(Below.refl _ _).alloc (Nat.le_refl _) _
 have s0:(w.alloc (.cells (a16 f) 36)).heap.size=w.heap.size+1:=by simp
 obtain ⟨A,hA⟩:∃ A,A=a16 f:=⟨_,rfl⟩
 rw [← hA] at B0 n0 s0 ⊢
 clear hA
 go_enter Tryz.func32,Tryz.ntmps32
 go_upto_region 1 with fail
 generalize w.alloc (.cells A 36)=wa at *
 have B1:=blk_zObj wa
 have n1:Below wa.heap.size wa (wa.alloc zObj):=(Below.refl _ _).alloc (Nat.le_refl _) _
 rw [s0] at B1
 generalize wa.alloc zObj=wr at *
 have RA:R16 wr w.heap.size f:=R16.ofBlk (B0.up n1)
 have RB:=R16.ofBlk B1
 have N:=nxt n0 n1
 clear B0 B1 n0 n1 s0
 refine region_store 5 _ (fIv (s16 f 16)) (by kernel_rfl) (by kernel_rfl) rfl rfl ?_ ?_
 ·intro i hi
  obtain rfl | rfl | rfl | rfl | rfl:i=0∨i=1∨i=2∨i=3∨i=4:=by omega
  ·exact step_el rfl 36 1 rfl Go.Proofs.YtnpolopcgmjmnaaGreatDoor.u50 i50 (by kernel_rfl) w.heap.size 0 rfl (s16 f 16) (Elt.ofR RA hf rfl) rfl
  ·refine step_call rfl _ _ _ rfl en_prime fun a W _ _ _ => (l2Prime_any W).mono ?_
   rintro r W' ⟨rfl,B,n⟩
   exact ⟨_,rfl,n,pbytes,_,_,_,rfl,B.own0,pbytes_cn⟩
  ·refine step_grow rfl fun a W _ _ _ => ⟨.slice (some ⟨W.heap.size, 0, none⟩) 1 1, W.alloc (.cells #[.int .u8 2] 5), ?_, (Below.refl _ _).alloc (Nat.le_refl _) _, [2], _, _, W.heap.size, rfl, Blk.own0 ⟨5, by rw [heap_alloc_last]; rfl⟩, rfl⟩
   go_simp
  ·refine step_call rfl _ _ _ rfl en_l1Sub fun a W _ _ hF => ?_
   obtain ⟨xs,b,c,g,e1,o1,C⟩:=hF 1 4 (by kernel_rfl)
   obtain ⟨ys,b',c',g',e2,o2,rfl⟩:=hF 2 5 (by kernel_rfl)
   show Calls Tryz.prog 61 #[a.tmps.getD 4 undef,a.tmps.getD 5 undef] W _
   rw [e1,e2]
   have L:xs.length≤64:=C.len (by decide)
   have P1:1≤xs.length:=canon_ge1 C (by decide)
   have E2:bval [2]=2:=by decide
   refine (l1Sub_any W g g' b b' c c' xs [2] o1.rd o2.rd C.1 (byt_one (by omega) (by omega)) (by omega) (by simpa using P1) (by rw [C.2.1,E2];decide)).mono ?_
   rintro r W' ⟨zs,D,⟨a',c',g',rfl,o',_,_,_⟩,n'⟩
   rw [C.2.1,E2] at D
   exact ⟨_,rfl,n',zs,_,_,_,rfl,o',D⟩
  ·refine step_call rfl _ _ _ rfl en_power fun a W _ _ hF => ?_
   obtain ⟨t,e1,L1,V1⟩:=hF 0 3 (by kernel_rfl)
   obtain ⟨ys,b',c',g',e2,o2,C⟩:=hF 3 6 (by kernel_rfl)
   show Calls Tryz.prog 60 #[a.tmps.getD 3 undef,a.tmps.getD 6 undef] W _
   rw [e1,e2]
   have L:ys.length≤4096:=by
    have:=C.len (n:=64) (by decide)
    omega
   refine (l2Power_any W t g' b' c' ys L1 o2.rd C.1 L).mono ?_
   rintro r W' ⟨u,rfl,LT,VT,n'⟩
   refine ⟨_,rfl,n',u,rfl,LT,?_⟩
   rw [VT,canon_nat C]
   exact pow_mod V1 _
 ·intro a W hb hw hF
  obtain ⟨t,e1,L1,V1⟩:=hF 4 7 (by kernel_rfl)
  have RB':=RB.up hw
  refine wp_store_mid 36 (.tmp 2) (.tmp 7) rfl (w.heap.size+1) 0 (a16 t) (based_at hb 2 (by kernel_rfl)) e1 (by rw [a16_size];exact RB'.2) (by rw [a16_size];exact i50) (a16_one t) ?_
  obtain ⟨vs,hvs⟩:∃ vs:Nat→Value,∀ d,a.tmps.getD d undef=vs d:=⟨_,fun _=>rfl⟩
  have RS:=R16.set t RB'.2
  have NS:Below w.heap.size w (W.setCells (w.heap.size+1) 0 (a16 t).toList):=below_setCells (by omega) _ _ _ (nxt N hw)
  generalize W.setCells (w.heap.size+1) 0 (a16 t).toList=W' at *
  rw [puts_of (md := .any) (k:=5) (by kernel_rfl) rfl hb vs hvs]
  clear hb hF hvs e1 RB' hw
  simp only [puts]
  go_wp2
  exact bodyPost_ret (v := .agg (a16 t)) (results_cell_mid Tryz.results32 _ _ (w.heap.size+1) (a16 t).toList (.array 16 2) rfl RS.1 Go.Proofs.YtnpolopcgmjmnaaGreatDoor.u50 rfl (by rw [show (a16 t).toList.length=16 by simp [ls16]];exact i50)) rfl ⟨t,rfl,L1,V1,NS⟩
end Go.Proofs.YtnpolopcgmjmnaaGreatDoor
namespace Go.Proofs.YtnpolopcgmjmnaaGreatDoor
set_option maxRecDepth 100000
open Go Go.RowKit
def c48 (a b c:Nat→Int):List Value:=(a16 a).toList ++ ((a16 b).toList ++ (a16 c).toList)
def ag48 (a b c:Nat→Int):Value := .agg (c48 a b c).toArray
theorem a16_len (t:Nat→Int):(a16 t).toList.length=16:=by simp [ls16]
theorem c48_len (a b c:Nat→Int):(c48 a b c).length=48:=by
 unfold c48
 rw [List.length_append,List.length_append,a16_len,a16_len,a16_len]
theorem c48_one (a b c:Nat→Int):(c48 a b c).toArray.all (·.oneCell')=true:=by
 refine all_oneCell_toArray fun v hv=>?_
 have h:∀ t,∀ v ∈ (a16 t).toList,v.oneCell'=true:=fun t v hv=>Array.all_eq_true_iff_forall_mem.1 (a16_one t) v (by simpa using hv)
 rcases List.mem_append.1 hv with h1 | h1
 ·exact h a v h1
 ·rcases List.mem_append.1 h1 with h2 | h2
  ·exact h b v h2
  ·exact h c v h2
theorem bu48 (a b c:Nat→Int) (w:World):(Instr.build 38 #[(0,ag16 a),(1,ag16 b),(2,ag16 c)]).run Tryz.prog w = .ok (ag48 a b c) w:=by kernel_rfl
theorem u144:∃ fs,Tryz.prog.underlying 38=some (.struct fs):=⟨_,Tryz.underlying38⟩
theorem i144:(Tryz.prog.info? 38).map (·.size)=some 48:=by kernel_rfl
theorem fx48 (q:Nat) (w:World):(Instr.fieldAt 38 (.pointer (some ⟨q,0,none⟩)) 0).run Tryz.prog w = .ok (.pointer (some ⟨q,0,none⟩)) w:=by kernel_rfl
theorem fy48 (q:Nat) (w:World):(Instr.fieldAt 38 (.pointer (some ⟨q,0,none⟩)) 1).run Tryz.prog w = .ok (.pointer (some ⟨q,16,none⟩)) w:=by kernel_rfl
theorem fz48 (q:Nat) (w:World):(Instr.fieldAt 38 (.pointer (some ⟨q,0,none⟩)) 2).run Tryz.prog w = .ok (.pointer (some ⟨q,32,none⟩)) w:=by kernel_rfl
def E3 (A B C:Int):Fact:=⟨fun v _=>∃ a b c,v=ag48 a b c∧(L16 a∧s16 a 16 % PP=A % PP)∧(L16 b∧s16 b 16 % PP=B % PP)∧L16 c∧s16 c 16 % PP=C % PP,fun _ h=>h⟩
def Elt3 (W:World) (q:Nat) (A B C:Int):Prop:=∃ a b c,W.rangeAt q 0 (c48 a b c)∧q < W.heap.size∧(L16 a∧s16 a 16 % PP=A % PP)∧(L16 b∧s16 b 16 % PP=B % PP)∧L16 c∧s16 c 16 % PP=C % PP
theorem Elt3.x {W:World} {q:Nat} {A B C:Int} (h:Elt3 W q A B C):Elt W q 0 A:=by
 obtain ⟨a,b,c,r,l,ha,_,_⟩:=h
 refine ⟨a,fun j v hv=>r j v ?_,l,ha⟩
 have hj:j < 16:=by have:=(List.getElem?_eq_some_iff.1 hv).1;rw [a16_len] at this;exact this
 unfold c48
 rw [List.getElem?_append_left (by rw [a16_len];exact hj)]
 exact hv
theorem Elt3.y {W:World} {q:Nat} {A B C:Int} (h:Elt3 W q A B C):Elt W q 16 B:=by
 obtain ⟨a,b,c,r,l,_,hb,_⟩:=h
 refine ⟨b,fun j v hv=>?_,l,hb⟩
 have hj:j < 16:=by have:=(List.getElem?_eq_some_iff.1 hv).1;rw [a16_len] at this;exact this
 have q:=r (16+j) v (by
  unfold c48
  rw [List.getElem?_append_right (by rw [a16_len];omega),a16_len,List.getElem?_append_left (by rw [a16_len];omega),show 16+j - 16=j by omega]
  exact hv)
 simpa using q
theorem Elt3.z {W:World} {q:Nat} {A B C:Int} (h:Elt3 W q A B C):Elt W q 32 C:=by
 obtain ⟨a,b,c,r,l,_,_,hc⟩:=h
 refine ⟨c,fun j v hv=>?_,l,hc⟩
 have hj:j < 16:=by have:=(List.getElem?_eq_some_iff.1 hv).1;rw [a16_len] at this;exact this
 have q:=r (32+j) v (by
  unfold c48
  rw [List.getElem?_append_right (by rw [a16_len];omega),a16_len,List.getElem?_append_right (by rw [a16_len];omega),a16_len,show 32+j - 16 - 16=j by omega]
  exact hv)
 simpa using q
theorem Elt3.up {W W':World} {q:Nat} {A B C:Int} (h:Elt3 W q A B C) (n:Below W.heap.size W W'):Elt3 W' q A B C:=by
 obtain ⟨a,b,c,r,l,h⟩:=h
 exact ⟨a,b,c,fun j v hv=>(World.cell?_of_block (a:=⟨q,0+j,none⟩) (n.block q l)).trans (r j v hv),Nat.lt_of_lt_of_le l n.size,h⟩
theorem there_up {W W':World} {q n:Nat} (hn:0 < n) (h:W.there q 0 n) (k:Below W.heap.size W W'):W'.there q 0 n:=by
 have h0:=(h 0 hn).1
 rw [Option.isSome_iff_exists] at h0
 obtain ⟨v,hv⟩:=h0
 have hb:=k.block q (block_lt_of_cell hv)
 exact fun j hj=>⟨by rw [World.cell?_of_block (a:=⟨q,0+j,none⟩) hb];exact (h j hj).1,by rw [World.frozen?_of_block (a:=⟨q,0+j,none⟩) hb];exact (h j hj).2⟩
theorem there_lt {W:World} {q n:Nat} (hn:0 < n) (h:W.there q 0 n):q < W.heap.size:=by
 have h0:=(h 0 hn).1
 rw [Option.isSome_iff_exists] at h0
 obtain ⟨v,hv⟩:=h0
 exact block_lt_of_cell hv
theorem there_new (W:World) (cs:List Value) (t:TypeId):(W.alloc (.cells cs.toArray t)).there W.heap.size 0 cs.length:=fun j hj=>by
 have e:(W.alloc (.cells cs.toArray t)).heap[W.heap.size]?=some (.cells cs.toArray t):=heap_alloc_last _ _
 constructor
 ·unfold World.cell?
  simp only
  rw [e]
  simp [hj]
 ·unfold World.frozen?
  simp only
  rw [e]
  simp
def NB (w0:World) (n:Nat):Fact:=⟨fun v w=>0 < n∧∃ q,v = .pointer (some ⟨q,0,none⟩)∧w.there q 0 n∧w0.heap.size≤q,fun k h=>by
 obtain ⟨hn,q,e,t,l⟩:=h
 exact ⟨hn,q,e,there_up hn t k,l⟩⟩
theorem heap_size_setCells (b:Nat):∀ (vs:List Value) (o:Nat) (w:World),(w.setCells b o vs).heap.size=w.heap.size
  | [],_,_=>rfl
  | v :: vs, o, w => by
    rw [World.setCells,heap_size_setCells b vs (o+1)]
    simp [World.setCell]
theorem set_elt {W:World} {q:Nat} {t:Nat→Int} {A:Int} (th:W.there q 0 16) (L:L16 t) (V:s16 t 16 % PP=A % PP):Elt (W.setCells q 0 (a16 t).toList) q 0 A :=
 ⟨t,World.rangeAt_setCells_same W q 0 _ (by rw [a16_len];exact th),by rw [heap_size_setCells];exact there_lt (by omega) th,L,V⟩
theorem set_elt3 {W:World} {q:Nat} {a b c:Nat→Int} {A B C:Int} (th:W.there q 0 48) (ha:L16 a∧s16 a 16 % PP=A % PP) (hb:L16 b∧s16 b 16 % PP=B % PP) (hc:L16 c∧s16 c 16 % PP=C % PP):Elt3 (W.setCells q 0 (c48 a b c)) q A B C :=
 ⟨a,b,c,World.rangeAt_setCells_same W q 0 _ (by rw [c48_len];exact th),by rw [heap_size_setCells];exact there_lt (by omega) th,ha,hb,hc⟩
def ButQ (q:Nat) (W W':World):Prop:=(∀ g,g≠q→g < W.heap.size→W'.heap[g]?=W.heap[g]?)∧W.heap.size≤W'.heap.size
theorem Elt.but {W W':World} {g o q:Nat} {A:Int} (h:Elt W g o A) (k:ButQ q W W') (hne:g≠q):Elt W' g o A:=by
 obtain ⟨t,r,l,h⟩:=h
 exact ⟨t,fun j v hv=>(World.cell?_of_block (a:=⟨g,o+j,none⟩) (k.1 g hne l)).trans (r j v hv),Nat.lt_of_lt_of_le l k.2,h⟩
theorem Elt3.but {W W':World} {g q:Nat} {A B C:Int} (h:Elt3 W g A B C) (k:ButQ q W W') (hne:g≠q):Elt3 W' g A B C:=by
 obtain ⟨a,b,c,r,l,h⟩:=h
 exact ⟨a,b,c,fun j v hv=>(World.cell?_of_block (a:=⟨g,0+j,none⟩) (k.1 g hne l)).trans (r j v hv),Nat.lt_of_lt_of_le l k.2,h⟩
theorem there_but {W W':World} {g q n:Nat} (hn:0 < n) (h:W.there g 0 n) (k:ButQ q W W') (hne:g≠q):W'.there g 0 n:=by
 have hb:=k.1 g hne (there_lt hn h)
 exact fun j hj=>⟨by rw [World.cell?_of_block (a:=⟨g,0+j,none⟩) hb];exact (h j hj).1,by rw [World.frozen?_of_block (a:=⟨g,0+j,none⟩) hb];exact (h j hj).2⟩
theorem but_set {W W':World} {q:Nat} (n:Below W.heap.size W W') (vs:List Value)   : ButQ q W (W'.setCells q 0 vs) :=
 ⟨fun g hg hl=>(setCells_other hg vs 0 W').trans (n.block g hl),by rw [heap_size_setCells];exact n.size⟩
section
variable {ops : Array Oper} {Q : Exit → Act → World → Prop} {a0 : Act} {w : World} {id : Nat} {draw : Bool}
theorem region_new16 (k jA jV pA pV:Nat) (o:Oper) (F:Nat→Fact) (A:Int) (hT:textOk .any ops a0.tmps.size k=true) (hk:ops[k]?=some o) (hd:o.dst=none) (hop:o.op = .store 36 (.tmp pA) (.tmp pV))
  (wA:writes ops jA pA=true) (wV:writes ops jV pV=true) (FA:F jA=NB w 16) (FV:F jV=EL A) (steps:∀ i,i < k→StepOk Tryz.prog .any ops Q F a0 w i)
  (fin:∀ (vs:Nat→Value) (q:Nat) (W:World),vs pA = .pointer (some ⟨q,0,none⟩)→w.heap.size≤q→Below w.heap.size w W→Elt W q 0 A→W.there q 0 16→Q .normal (puts vs a0 ops.toList) W) :
  (Code.region id ops draw).wp Tryz.prog Q a0 w:=by
 refine region_store k o F (by kernel_rfl) hT hk hd steps fun a W hb hw hF=>?_
 have h1:=hF jA pA wA
 have h2:=hF jV pV wV
 rw [FA] at h1
 rw [FV] at h2
 obtain ⟨_,q,eq,th,hq⟩:=h1
 obtain ⟨t,ev,L,V⟩:=h2
 refine wp_store_mid 36 (.tmp pA) (.tmp pV) hop q 0 (a16 t) eq ev (by rw [a16_size];exact th) (by rw [a16_size];exact i50) (a16_one t) ?_
 obtain ⟨vs,hvs⟩:∃ vs:Nat→Value,∀ d,a.tmps.getD d undef=vs d:=⟨_,fun _=>rfl⟩
 rw [hd]
 show Q .normal a _
 rw [puts_of hT rfl hb vs hvs]
 exact fin vs q _ ((hvs pA).symm.trans eq) hq (below_setCells hq _ _ _ hw) (set_elt th L V) (World.there_setCells th _ _ _)
theorem region_new48 (k jA jV pA pV:Nat) (o:Oper) (F:Nat→Fact) (A B C:Int) (hT:textOk .any ops a0.tmps.size k=true) (hk:ops[k]?=some o) (hd:o.dst=none) (hop:o.op = .store 38 (.tmp pA) (.tmp pV))
  (wA:writes ops jA pA=true) (wV:writes ops jV pV=true) (FA:F jA=NB w 48) (FV:F jV=E3 A B C) (steps:∀ i,i < k→StepOk Tryz.prog .any ops Q F a0 w i)
  (fin:∀ (vs:Nat→Value) (q:Nat) (W:World),vs pA = .pointer (some ⟨q,0,none⟩)→w.heap.size≤q→Below w.heap.size w W→Elt3 W q A B C→W.there q 0 48→Q .normal (puts vs a0 ops.toList) W) :
  (Code.region id ops draw).wp Tryz.prog Q a0 w:=by
 refine region_store k o F (by kernel_rfl) hT hk hd steps fun a W hb hw hF=>?_
 have h1:=hF jA pA wA
 have h2:=hF jV pV wV
 rw [FA] at h1
 rw [FV] at h2
 obtain ⟨_,q,eq,th,hq⟩:=h1
 obtain ⟨x,y,z,ev,hx,hy,hz⟩:=h2
 refine wp_store_mid 38 (.tmp pA) (.tmp pV) hop q 0 (c48 x y z).toArray eq ev (by rw [List.size_toArray,c48_len];exact th) (by rw [List.size_toArray,c48_len];exact i144) (c48_one x y z) ?_
 obtain ⟨vs,hvs⟩:∃ vs:Nat→Value,∀ d,a.tmps.getD d undef=vs d:=⟨_,fun _=>rfl⟩
 rw [hd]
 show Q .normal a _
 rw [puts_of hT rfl hb vs hvs]
 exact fin vs q _ ((hvs pA).symm.trans eq) hq (below_setCells hq _ _ _ hw) (set_elt3 th hx hy hz) (World.there_setCells th _ _ _)
theorem region_put16 (k jV pD pV:Nat) (o:Oper) (F:Nat→Fact) (A:Int) (q:Nat) (hT:textOk .any ops a0.tmps.size k=true) (hk:ops[k]?=some o) (hd:o.dst=none) (hop:o.op = .store 36 (.tmp pD) (.tmp pV))
  (hp:apart ops pD=true) (h0:a0.tmps.getD pD undef = .pointer (some ⟨q,0,none⟩)) (ht:w.there q 0 16) (wV:writes ops jV pV=true) (FV:F jV=EL A) (steps:∀ i,i < k→StepOk Tryz.prog .any ops Q F a0 w i)
  (fin:∀ (vs:Nat→Value) (W W':World),Below w.heap.size w W→ButQ q w W'→Elt W' q 0 A→W'.there q 0 16→(∀ (w1:World) (B:Nat),Below B w1 W→B≤q→Below B w1 W')→Q .normal (puts vs a0 ops.toList) W') :
  (Code.region id ops draw).wp Tryz.prog Q a0 w:=by
 refine region_store k o F (by kernel_rfl) hT hk hd steps fun a W hb hw hF=>?_
 have h2:=hF jV pV wV
 rw [FV] at h2
 obtain ⟨t,ev,L,V⟩:=h2
 have th:=there_up (by omega) ht hw
 refine wp_store_mid 36 (.tmp pD) (.tmp pV) hop q 0 (a16 t) ((based_at hb pD hp).trans h0) ev (by rw [a16_size];exact th) (by rw [a16_size];exact i50) (a16_one t) ?_
 obtain ⟨vs,hvs⟩:∃ vs:Nat→Value,∀ d,a.tmps.getD d undef=vs d:=⟨_,fun _=>rfl⟩
 rw [hd]
 show Q .normal a _
 rw [puts_of hT rfl hb vs hvs]
 exact fin vs W _ hw (but_set hw _) (set_elt th L V) (World.there_setCells th _ _ _) (fun w1 B n hB=>below_setCells hB _ _ _ n)
theorem region_put48 (k jV pD pV:Nat) (o:Oper) (F:Nat→Fact) (A B C:Int) (q:Nat) (hT:textOk .any ops a0.tmps.size k=true) (hk:ops[k]?=some o) (hd:o.dst=none) (hop:o.op = .store 38 (.tmp pD) (.tmp pV))
  (hp:apart ops pD=true) (h0:a0.tmps.getD pD undef = .pointer (some ⟨q,0,none⟩)) (ht:w.there q 0 48) (wV:writes ops jV pV=true) (FV:F jV=E3 A B C) (steps:∀ i,i < k→StepOk Tryz.prog .any ops Q F a0 w i)
  (fin:∀ (vs:Nat→Value) (W W':World),Below w.heap.size w W→ButQ q w W'→Elt3 W' q A B C→W'.there q 0 48→(∀ (w1:World) (B:Nat),Below B w1 W→B≤q→Below B w1 W')→Q .normal (puts vs a0 ops.toList) W') :
  (Code.region id ops draw).wp Tryz.prog Q a0 w:=by
 refine region_store k o F (by kernel_rfl) hT hk hd steps fun a W hb hw hF=>?_
 have h2:=hF jV pV wV
 rw [FV] at h2
 obtain ⟨x,y,z,ev,hx,hy,hz⟩:=h2
 have th:=there_up (by omega) ht hw
 refine wp_store_mid 38 (.tmp pD) (.tmp pV) hop q 0 (c48 x y z).toArray ((based_at hb pD hp).trans h0) ev (by rw [List.size_toArray,c48_len];exact th) (by rw [List.size_toArray,c48_len];exact i144) (c48_one x y z) ?_
 obtain ⟨vs,hvs⟩:∃ vs:Nat→Value,∀ d,a.tmps.getD d undef=vs d:=⟨_,fun _=>rfl⟩
 rw [hd]
 show Q .normal a _
 rw [puts_of hT rfl hb vs hvs]
 exact fin vs W _ hw (but_set hw _) (set_elt3 th hx hy hz) (World.there_setCells th _ _ _) (fun w1 B n hB=>below_setCells hB _ _ _ n)
end
section
variable {ops : Array Oper} {Q : Exit → Act → World → Prop} {md : Region.Mode} {F : Nat → Fact} {a0 : Act} {w0 : World} {i : Nat} {o : Oper} {ts : Array TypeId}
theorem step_new16 (hi:ops[i]?=some o) (hop:o.op = .alloc 36) (hF:F i=NB w0 16):StepOk Tryz.prog md ops Q F a0 w0 i:=by
 refine step_grow hi fun a w _ hw _=>⟨.pointer (some ⟨w.heap.size,0,none⟩),w.alloc zObj,?_,(Below.refl _ _).alloc (Nat.le_refl _) _,?_⟩
 ·simp only [execOp, hop]
  kernel_rfl
 ·rw [hF]
  exact ⟨by omega,_,rfl,there_new w _ _,hw.size⟩
abbrev zObj48:Obj := .cells (List.replicate 48 (Value.int .i64 0)).toArray 38
theorem step_new48 (hi:ops[i]?=some o) (hop:o.op = .alloc 38) (hF:F i=NB w0 48):StepOk Tryz.prog md ops Q F a0 w0 i:=by
 refine step_grow hi fun a w _ hw _=>⟨.pointer (some ⟨w.heap.size,0,none⟩),w.alloc zObj48,?_,(Below.refl _ _).alloc (Nat.le_refl _) _,?_⟩
 ·simp only [execOp, hop]
  kernel_rfl
 ·rw [hF]
  exact ⟨by omega,_,rfl,there_new w _ _,hw.size⟩
theorem step_b48 (hi:ops[i]?=some o) (p q r j k l:Nat) (A B C:Int) (hop:o.op = .build 38 #[(0,.tmp p),(1,.tmp q),(2,.tmp r)])
  (hj:waits md ops i j p=true) (hk:waits md ops i k q=true) (hl:waits md ops i l r=true) (hFj:F j=EL A) (hFk:F k=EL B) (hFl:F l=EL C) (hFi:F i=E3 A B C):StepOk Tryz.prog md ops Q F a0 w0 i:=by
 refine step_pure hi fun a w _ _ hf=>?_
 have h1:=hf j p hj
 have h2:=hf k q hk
 have h3:=hf l r hl
 rw [hFj] at h1
 rw [hFk] at h2
 rw [hFl] at h3
 obtain ⟨x,e1,X⟩:=h1
 obtain ⟨y,e2,Y⟩:=h2
 obtain ⟨z,e3,Z⟩:=h3
 refine ⟨ag48 x y z,?_,by rw [hFi];exact ⟨x,y,z,rfl,X,Y,Z⟩⟩
 have g1:a.eval (.tmp p)=ag16 x:=e1
 have g2:a.eval (.tmp q)=ag16 y:=e2
 have g3:a.eval (.tmp r)=ag16 z:=e3
 have g:(#[(0,Operand.tmp p),(1,Operand.tmp q),(2,Operand.tmp r)].map fun (n,x)=>(n,a.eval x)) = #[(0,ag16 x),(1,ag16 y),(2,ag16 z)]:=by simp [g1,g2,g3]
 simp only [execOp,hop,g]
 rw [Sem.run_bind,bu48]
 rfl
def iv (A:Int):Int:=A ^ eIv
theorem en_inv:enters Tryz.prog 32=true:=by kernel_rfl
theorem step_inv (hi:ops[i]?=some o) (p j:Nat) (A:Int) (hop:o.op = .call { callee := .value (.func 32),args := #[.tmp p],argTypes:=ts })
  (hj:waits md ops i j p=true) (hFj:F j=EL A) (hFi:F i=EL (iv A)):StepOk Tryz.prog md ops Q F a0 w0 i :=
 step_one hi _ p ts hop en_inv iv (fun w a ha=>l2Inv_any w a ha) (fun _ _ h=>pow_mod h _) j A hj hFj hFi
end
end Go.Proofs.YtnpolopcgmjmnaaGreatDoor
namespace Go.Proofs.YtnpolopcgmjmnaaGreatDoor
set_option maxRecDepth 100000
open Go.RowKit
theorem maskN (a:Nat) (ha:a < 18446744073709551616):bits .and .u64 (a:Int) 4294967295=((a % 4294967296:Nat):Int):=by
 have h:=bits_and_u64_nat a 4294967295 ha (by omega)
 have e:a &&& 4294967295=a % 4294967296:=Nat.and_two_pow_sub_one_eq_mod a 32
 rw [e] at h
 exact h
theorem divN (a:Nat):(a:Int) / 4294967296=((a / 4294967296:Nat):Int):=by omega
theorem mulN (a b:Nat):(a:Int)*(b:Int)=((a*b:Nat):Int):=(Int.natCast_mul a b).symm
theorem addN (a b:Nat):(a:Int)+(b:Int)=((a+b:Nat):Int):=(Int.natCast_add a b).symm
theorem wrapN (a:Nat) (ha:a < 18446744073709551616):IntKind.u64.wrap (a:Int)=(a:Int):=by rw [IntKind.wrap_u64];omega
theorem wrapM (a:Nat):IntKind.u64.wrap (a:Int)=((a % 18446744073709551616:Nat):Int):=by rw [IntKind.wrap_u64];omega
set_option maxHeartbeats 1000000 in
theorem mul64_nat (x y:Nat) (hx:x < 18446744073709551616) (hy:y < 18446744073709551616) (w:World) :
  Calls Tryz.prog 134 #[.int .u64 x,.int .u64 y] w fun e w'=>e = .returned (.tuple #[.int .u64 ((x*y / 18446744073709551616:Nat):Int),.int .u64 ((x*y % 18446744073709551616:Nat):Int)])∧w'=w:=by
 obtain ⟨bd,bt,bw,hhi⟩:=Lib.mul64_hi x y hx hy
 have ba:=Lib.half_mul_le (a:=x / 4294967296) (b:=y / 4294967296) (by omega) (by omega)
 have bb:=Lib.half_mul_le (a:=x / 4294967296) (b:=y % 4294967296) (by omega) (by omega)
 have bc:=Lib.half_mul_le (a:=x % 4294967296) (b:=y / 4294967296) (by omega) (by omega)
 have ba':x / 4294967296*(y / 4294967296) < 18446744073709551616:=by omega
 have bb':x / 4294967296*(y % 4294967296) < 18446744073709551616:=by omega
 have bc':x % 4294967296*(y / 4294967296) < 18446744073709551616:=by omega
 have bh1:x / 4294967296*(y / 4294967296)+(x / 4294967296*(y % 4294967296)+x % 4294967296*(y % 4294967296) / 4294967296) / 4294967296 < 18446744073709551616:=by omega
 have bh:x / 4294967296*(y / 4294967296)+(x / 4294967296*(y % 4294967296)+x % 4294967296*(y % 4294967296) / 4294967296) / 4294967296+((x / 4294967296*(y % 4294967296)+x % 4294967296*(y % 4294967296) / 4294967296) % 4294967296+x % 4294967296*(y / 4294967296)) / 4294967296 < 18446744073709551616:=by omega
 go_enter Tryz.func134,Tryz.ntmps134
 go_wp2
 simp only [maskN x hx,maskN y hy,divN,mulN,addN,wrapN _ bd,wrapN _ bb',wrapN _ bt,maskN _ bt,wrapN _ bc',wrapN _ bw,wrapN _ ba',wrapN _ bh1,wrapN _ bh,wrapM (x*y)]
 rw [hhi]
 go_ret2
 exact ⟨rfl,rfl⟩
theorem mul64_any (x y:Int) (hx:0≤x∧x < 18446744073709551616) (hy:0≤y∧y < 18446744073709551616) (w:World) :
  Calls Tryz.prog 134 #[.int .u64 x,.int .u64 y] w fun e w'=>e = .returned (.tuple #[.int .u64 (x*y / 18446744073709551616),.int .u64 (x*y % 18446744073709551616)])∧w'=w:=by
 obtain ⟨m,rfl⟩:=Int.eq_ofNat_of_zero_le hx.1
 obtain ⟨n,rfl⟩:=Int.eq_ofNat_of_zero_le hy.1
 have h:=mul64_nat m n (by omega) (by omega) w
 have e1:((m*n / 18446744073709551616:Nat):Int)=(m:Int)*(n:Int) / 18446744073709551616:=by rw [Int.natCast_ediv,Int.natCast_mul];rfl
 have e2:((m*n % 18446744073709551616:Nat):Int)=(m:Int)*(n:Int) % 18446744073709551616:=by rw [Int.natCast_emod,Int.natCast_mul];rfl
 rw [e1,e2] at h
 exact h
theorem add64_run (x y:Int) (hx:0≤x) (hy:0≤y) (w:World) :
  (callFunc 123 #[.int .u64 x,.int .u64 y,.int .u64 0]).run Tryz.prog w =
   .ok (.value (.tuple #[.int .u64 ((x+y) % 18446744073709551616),.int .u64 ((x+y) / 18446744073709551616)])) w:=by
 rw [run_callFunc_extern Tryz.func123 (by kernel_rfl) (by kernel_rfl) (by kernel_rfl) (e:=add64Entry) (by kernel_rfl),run_add64 x y 0 hx hy (by omega) (by omega)]
 simp only [Result.andThen,Int.add_zero]
def ag2 (h l:Int):Value := .agg #[.int .u64 h,.int .u64 l]
set_option maxHeartbeats 4000000 in
theorem addProduct_any (w:World) (h l a b:Int) (hh:0≤h∧h < 18446744073709551616) (hl:0≤l∧l < 18446744073709551616) (ha:0≤a∧a < 18446744073709551616) (hb:0≤b∧b < 18446744073709551616)
  (hs:h*18446744073709551616+l+a*b < 340282366920938463463374607431768211456) :
  Calls Tryz.prog 120 #[ag2 h l,.int .u64 a,.int .u64 b] w fun e w' =>
   e = .returned (ag2 ((h*18446744073709551616+l+a*b) / 18446744073709551616) ((h*18446744073709551616+l+a*b) % 18446744073709551616))∧Below w.heap.size w w':=by
 have m0:0≤a*b:=Int.mul_nonneg ha.1 hb.1
 have M:=mul64_any a b ha hb
 generalize a*b=p at *
 have AD:=add64_run l (p % 18446744073709551616) hl.1 (by omega)
 simp only [ag2]
 go_enter Tryz.func120,Tryz.ntmps120
 go_wp2_with fail
 refine (M _).mono ?_
 rintro e w1 ⟨rfl,rfl⟩
 have K1:Hid ((h*18446744073709551616+l+p) / 18446744073709551616=h+p / 18446744073709551616+(l+p % 18446744073709551616) / 18446744073709551616):=by show _=_;omega
 have K2:Hid ((h*18446744073709551616+l+p) % 18446744073709551616=(l+p % 18446744073709551616) % 18446744073709551616):=by show _=_;omega
 have b1:0≤p / 18446744073709551616:=by omega
 have b2:0≤(l+p % 18446744073709551616) / 18446744073709551616:=by omega
 have b3:h+p / 18446744073709551616+(l+p % 18446744073709551616) / 18446744073709551616 < 18446744073709551616:=by omega
 generalize (l+p % 18446744073709551616) % 18446744073709551616=s at *
 generalize (l+p % 18446744073709551616) / 18446744073709551616=c at *
 generalize p / 18446744073709551616=p1 at *
 generalize p % 18446744073709551616=p0 at *
 clear M hs m0
 go_wp2
 refine bodyPost_ret (v:=ag2 (h+p1+c) s) (by simp [ag2,results,Tryz.results120,go_sem]) rfl ⟨by rw [K1.out,K2.out];rfl,?_⟩
 exact ((Below.refl _ _).alloc (Nat.le_refl _) _).alloc (by simp) _
end Go.Proofs.YtnpolopcgmjmnaaGreatDoor
namespace Go.Proofs.YtnpolopcgmjmnaaGreatDoor
set_option maxRecDepth 100000
open Go.RowKit
theorem or64c (z x:Int) (i m:Nat) (hm:m=2 ^ i) (z0:0≤z) (z1:z < (m:Int)) (x0:0≤x) (x1:x*(m:Int) < 18446744073709551616) (m1:m≤18446744073709551616) :
  bits BinOp.or IntKind.u64 (x*(m:Int)) z=z+x*(m:Int):=by
 rw [← or64 z x i m hm z0 z1 x0 x1 m1]
 obtain ⟨a,rfl⟩:=Int.eq_ofNat_of_zero_le z0
 obtain ⟨b,rfl⟩:=Int.eq_ofNat_of_zero_le x0
 have e:(b:Int)*(m:Int)=((b*m:Nat):Int):=by simp
 rw [e] at x1 ⊢
 rw [bits_or_u64_nat a (b*m) (by omega) (by omega),bits_or_u64_nat (b*m) a (by omega) (by omega),Nat.or_comm]
theorem blk_box2 (w:World) (k:IntKind) (t:TypeId) (a b:Int):Blk (w.alloc (.cells #[.int k a,.int k b] t)) w.heap.size k [a,b] :=
 ⟨t,by rw [heap_alloc_last];rfl⟩
theorem blk_box9 (w:World) (k:IntKind) (t:TypeId) (a b c d e f g h i:Int):Blk (w.alloc (.cells #[.int k a,.int k b,.int k c,.int k d,.int k e,.int k f,.int k g,.int k h,.int k i] t)) w.heap.size k [a,b,c,d,e,f,g,h,i] :=
 ⟨t,by rw [heap_alloc_last];rfl⟩
structure MulS (w:World) (N:Nat) (e f:Nat→Int) (wr:World):Prop where
 E:Blk wr N .u64 [e 0,e 1,e 2,e 3,e 4]
 R:Blk wr (N+1+1) .u64 [0,0,0,0,0]
 F:Blk wr (N+1+1+1) .u64 (fill (rnd f) 9)
 B:Below N w wr
theorem MulS.up {w wr wq:World} {N:Nat} {e f:Nat→Int} (h:MulS w N e f wr) (n:Below wr.heap.size wr wq) (hN:N≤wr.heap.size):MulS w N e f wq :=
 ⟨h.E.up n,h.R.up n,h.F.up n,h.B.trans (n.mono hN)⟩
theorem MulS.set {w wr:World} {N g i:Nat} {e f:Nat→Int} (h:MulS w N e f wr) (hg:N+1+1+1 < g) (v:Value):MulS w N e f (wr.setCell ⟨g,i,none⟩ v) :=
 ⟨h.E.keep (by omega),h.R.keep (by omega),h.F.keep (by omega),h.B.setCell (by show N≤g;omega) v⟩
theorem MulS.drew {w wr:World} {N:Nat} {e f:Nat→Int} (h:MulS w N e f wr):MulS w N e f wr.drew:=⟨h.E.drew,h.R.drew,h.F.drew,h.B.drew⟩
set_option maxHeartbeats 8000000 in
set_option maxRecDepth 100000 in
theorem mul_any (w : World) (e f : Nat → Int) (he : Lm e) (hf : Lm f) :
  Calls Tryz.prog 104 #[ag5 e,ag5 f] w fun r w'=>r = .returned (ag5 (stl (st1 (cols e f))))∧Below w.heap.size w w':=by
 have f0:=hf 0 (by omega);have f1:=hf 1 (by omega);have f2:=hf 2 (by omega);have f3:=hf 3 (by omega);have f4:=hf 4 (by omega)
 have B0:=blk_box w .u64 83 (e 0) (e 1) (e 2) (e 3) (e 4)
 have n0:Below w.heap.size w (w.alloc (.cells #[.int .u64 (e 0),.int .u64 (e 1),.int .u64 (e 2),.int .u64 (e 3),.int .u64 (e 4)] 83)):=(Below.refl _ _).alloc (Nat.le_refl _) _
 have s0:(w.alloc (.cells #[.int .u64 (e 0),.int .u64 (e 1),.int .u64 (e 2),.int .u64 (e 3),.int .u64 (e 4)] 83)).heap.size=w.heap.size+1:=by simp
 simp only [ag5]
 go_enter Tryz.func104,Tryz.ntmps104
 go_wp2
 generalize w.alloc (.cells #[.int .u64 (e 0),.int .u64 (e 1),.int .u64 (e 2),.int .u64 (e 3),.int .u64 (e 4)] 83)=wa at *
 have B1:=blk_box wa .u64 83 (f 0) (f 1) (f 2) (f 3) (f 4)
 have n1:Below wa.heap.size wa (wa.alloc (.cells #[.int .u64 (f 0),.int .u64 (f 1),.int .u64 (f 2),.int .u64 (f 3),.int .u64 (f 4)] 83)):=(Below.refl _ _).alloc (Nat.le_refl _) _
 have s1:(wa.alloc (.cells #[.int .u64 (f 0),.int .u64 (f 1),.int .u64 (f 2),.int .u64 (f 3),.int .u64 (f 4)] 83)).heap.size=w.heap.size+1+1:=by simp [s0]
 generalize wa.alloc (.cells #[.int .u64 (f 0),.int .u64 (f 1),.int .u64 (f 2),.int .u64 (f 3),.int .u64 (f 4)] 83)=wb at *
 have B2:=blk_box wb .u64 83 0 0 0 0 0
 have n2:Below wb.heap.size wb (wb.alloc (.cells #[.int .u64 0,.int .u64 0,.int .u64 0,.int .u64 0,.int .u64 0] 83)):=(Below.refl _ _).alloc (Nat.le_refl _) _
 have s2:(wb.alloc (.cells #[.int .u64 0,.int .u64 0,.int .u64 0,.int .u64 0,.int .u64 0] 83)).heap.size=w.heap.size+1+1+1:=by simp [s1]
 generalize wb.alloc (.cells #[.int .u64 0,.int .u64 0,.int .u64 0,.int .u64 0,.int .u64 0] 83)=wc at *
 have B3:=blk_box9 wc .u64 188 (19*f 1) (19*f 2) (19*f 3) (19*f 4) (f 0) (f 1) (f 2) (f 3) (f 4)
 have n3:Below wc.heap.size wc (wc.alloc (.cells #[.int .u64 (19*f 1),.int .u64 (19*f 2),.int .u64 (19*f 3),.int .u64 (19*f 4),.int .u64 (f 0),.int .u64 (f 1),.int .u64 (f 2),.int .u64 (f 3),.int .u64 (f 4)] 188)):=(Below.refl _ _).alloc (Nat.le_refl _) _
 have s3:(wc.alloc (.cells #[.int .u64 (19*f 1),.int .u64 (19*f 2),.int .u64 (19*f 3),.int .u64 (19*f 4),.int .u64 (f 0),.int .u64 (f 1),.int .u64 (f 2),.int .u64 (f 3),.int .u64 (f 4)] 188)).heap.size=w.heap.size+1+1+1+1:=by simp [s2]
 generalize wc.alloc (.cells #[.int .u64 (19*f 1),.int .u64 (19*f 2),.int .u64 (19*f 3),.int .u64 (19*f 4),.int .u64 (f 0),.int .u64 (f 1),.int .u64 (f 2),.int .u64 (f 3),.int .u64 (f 4)] 188)=wd at *
 have B4:=blk_box wd .u64 187 0 0 0 0 0
 have n4:Below wd.heap.size wd (wd.alloc (.cells #[.int .u64 0,.int .u64 0,.int .u64 0,.int .u64 0,.int .u64 0] 187)):=(Below.refl _ _).alloc (Nat.le_refl _) _
 have s4:(wd.alloc (.cells #[.int .u64 0,.int .u64 0,.int .u64 0,.int .u64 0,.int .u64 0] 187)).heap.size=w.heap.size+1+1+1+1+1:=by simp [s3]
 generalize wd.alloc (.cells #[.int .u64 0,.int .u64 0,.int .u64 0,.int .u64 0,.int .u64 0] 187)=wx at *
 rw [s1] at B2
 rw [s2] at B3
 rw [s3] at B4
 have M0:MulS w w.heap.size e f wx:=⟨(((B0.up n1).up n2).up n3).up n4,(B2.up n3).up n4,B3.up n4,nxt (nxt (nxt (nxt n0 n1) n2) n3) n4⟩
 clear B0 B1 B2 B3 n0 n1 n2 n3 n4 s0 s1 s2 s3
 have cb:=fun k=>cols_cr he hf k
 go_loopw [7,34] (fun q i wr=>∃ (k:Nat) (ys:List Int),k≤5∧i = .int .i64 k∧q = .int .u64 (cr 0 (cols e f) k)∧Upd (lf 0 (cols e f)) (fun _=>0) ys k∧MulS w w.heap.size e f wr∧Blk wr (w.heap.size+1+1+1+1) .u64 ys∧w.heap.size+1+1+1+1 < wr.heap.size) (fun _ i _=>5 - (intOf i).toNat)
 case atStart=>exact ⟨0,_,by omega,rfl,rfl,Upd.zero _ (fun _=>0),M0,B4,by omega⟩
 case round =>
  clear M0 B4 s4
  obtain ⟨k,ys,hk,rfl,rfl,hU,hM,hB,hz⟩:=hrel
  by_cases hlt:k < 5
  ·have ck := cb k
   have k2:decide ((k:Int) < 5)=true:=by simp;omega
   have U5:=hide hU
   have colb:=fun j hj=>col_bd he hf k hlt j hj
   have T0:=blk_box2 wr .u64 182 0 (cr 0 (cols e f) k)
   have nw:Below wr.heap.size wr (wr.alloc (.cells #[.int .u64 0,.int .u64 (cr 0 (cols e f) k)] 182)):=(Below.refl _ _).alloc (Nat.le_refl _) _
   have hw:wr.heap.size < (wr.alloc (.cells #[.int .u64 0,.int .u64 (cr 0 (cols e f) k)] 182)).heap.size:=by simp
   have hM1:=hM.up nw (by omega)
   have hB1:=hB.up nw
   clear hU hM hB
   go_wp2
   generalize wr.alloc (.cells #[.int .u64 0,.int .u64 (cr 0 (cols e f) k)] 182)=wn at *
   obtain ⟨G,hG⟩:∃ G,G=wr.heap.size:=⟨_,rfl⟩
   have hGz:w.heap.size+1+1+1+1 < G:=by omega
   rw [← hG] at T0 hw ⊢
   clear hG nw hz
   obtain ⟨C,hC⟩:∃ C,C=cr 0 (cols e f) k:=⟨_,rfl⟩
   have hC':=hide hC
   rw [← hC] at T0 ck ⊢
   clear hC
   go_loopw [39] (fun i wq=>∃ (j:Nat),j≤5∧i = .int .i64 j∧MulS w w.heap.size e f wq∧Blk wq (w.heap.size+1+1+1+1) .u64 ys∧Blk wq G .u64 [(C+col e f k j) / 18446744073709551616,(C+col e f k j) % 18446744073709551616]∧G < wq.heap.size) (fun i _=>5 - (intOf i).toNat)
   case atStart =>
    refine ⟨0,by omega,rfl,hM1,hB1,?_,hw⟩
    have e0:(C+col e f k 0) / 18446744073709551616=0:=by simp only [col];omega
    have e1:(C+col e f k 0) % 18446744073709551616=C:=by simp only [col];omega
    rw [e0,e1]
    exact T0
   case round =>
    clear hM1 hB1 T0 hw wn
    obtain ⟨j,hj,rfl,hM,hB,hT,hz⟩:=hrel
    by_cases hjt:j < 5
    ·have ce := hM.E.at5 hjt
     have eb:=he j hjt
     have rb:=rnd_bd hf (4+k - j) (by omega)
     have cf:wr.cell? ⟨w.heap.size+1+1+1,4+k - j,none⟩=some (.int .u64 (rnd f (4+k - j))):=by rw [hM.F.cell (by rw [fill_len];omega),fill_get _ _ _ (by omega)]
     have cj:=colb j (by omega)
     have cj':=colb (j+1) (by omega)
     have cs:col e f k (j+1)=col e f k j+e j*rnd f (4+k - j):=rfl
     obtain ⟨⟨t0,t1⟩,g0,g1⟩:(wr.cell? ⟨G,0,none⟩=some (.int .u64 ((C+col e f k j) / 18446744073709551616))∧wr.cell? ⟨G,1,none⟩=some (.int .u64 ((C+col e f k j) % 18446744073709551616)))∧wr.frozen? ⟨G,0,none⟩=false∧wr.frozen? ⟨G,1,none⟩=false :=
      ⟨⟨hT.cell (i:=0) (by simp),hT.cell (i:=1) (by simp)⟩,hT.free 0,hT.free 1⟩
     have AP:∀ W,(∃ n,W=wr.drewN n)→Calls Tryz.prog 120 #[.agg #[.int .u64 ((C+col e f k j) / 18446744073709551616),.int .u64 ((C+col e f k j) % 18446744073709551616)],.int .u64 (e j),.int .u64 (rnd f (4+k - j))] W fun r w' =>
       r = .returned (.agg #[.int .u64 ((C+col e f k (j+1)) / 18446744073709551616),.int .u64 ((C+col e f k (j+1)) % 18446744073709551616)])∧Below wr.heap.size wr w':=by
      rintro W ⟨n,rfl⟩
      have e1:(C+col e f k j) / 18446744073709551616*18446744073709551616+(C+col e f k j) % 18446744073709551616+e j*rnd f (4+k - j)=C+col e f k (j+1):=by rw [cs];omega
      have h:=addProduct_any (wr.drewN n) ((C+col e f k j) / 18446744073709551616) ((C+col e f k j) % 18446744073709551616) (e j) (rnd f (4+k - j)) ⟨by omega,by omega⟩ ⟨by omega,by omega⟩ ⟨by omega,by omega⟩ ⟨by omega,by omega⟩ (by rw [e1];omega)
      rw [e1] at h
      refine h.mono ?_
      rintro r w' ⟨rfl,n'⟩
      exact ⟨rfl,(below_drewN (Below.refl wr.heap.size wr) n).trans n'⟩
     have FIN:∀ w',Below wr.heap.size wr w'→MulS w w.heap.size e f ((w'.setCell ⟨G,0,none⟩ (.int .u64 ((C+col e f k (j+1)) / 18446744073709551616))).setCell ⟨G,1,none⟩ (.int .u64 ((C+col e f k (j+1)) % 18446744073709551616)))∧Blk ((w'.setCell ⟨G,0,none⟩ (.int .u64 ((C+col e f k (j+1)) / 18446744073709551616))).setCell ⟨G,1,none⟩ (.int .u64 ((C+col e f k (j+1)) % 18446744073709551616))) (w.heap.size+1+1+1+1) .u64 ys ∧
       Blk ((w'.setCell ⟨G,0,none⟩ (.int .u64 ((C+col e f k (j+1)) / 18446744073709551616))).setCell ⟨G,1,none⟩ (.int .u64 ((C+col e f k (j+1)) % 18446744073709551616))) G .u64 [(C+col e f k (j+1)) / 18446744073709551616,(C+col e f k (j+1)) % 18446744073709551616]∧G < ((w'.setCell ⟨G,0,none⟩ (.int .u64 ((C+col e f k (j+1)) / 18446744073709551616))).setCell ⟨G,1,none⟩ (.int .u64 ((C+col e f k (j+1)) % 18446744073709551616))).heap.size:=by
      intro w' n'
      have hq:=hM.B.size
      refine ⟨((hM.up n' (by omega)).set (by omega) _).set (by omega) _,((hB.up n').keep (by omega)).keep (by omega),((hT.up n').store 0 _).store 1 _,?_⟩
      have:=n'.size
      simp [World.setCell]
      omega
     have KC:∀ w',Below wr.heap.size wr w'→(w'.cell? ⟨G,0,none⟩=some (.int .u64 ((C+col e f k j) / 18446744073709551616))∧w'.cell? ⟨G,1,none⟩=some (.int .u64 ((C+col e f k j) % 18446744073709551616)))∧w'.frozen? ⟨G,0,none⟩=false∧w'.frozen? ⟨G,1,none⟩=false:=fun w' n' =>
      ⟨⟨(hT.up n').cell (i:=0) (by simp),(hT.up n').cell (i:=1) (by simp)⟩,(hT.up n').free 0,(hT.up n').free 1⟩
     have AP':=hide AP
     have FIN':=hide FIN
     have KC':=hide KC
     obtain ⟨p,hp⟩:∃ p:Nat,4+k - j=p:=⟨_,rfl⟩
     rw [hp] at cf AP'
     have i1:(4:Int)+(k:Int) - (j:Int)=(p:Int):=by omega
     have i2:IntKind.i64.wrap ((4:Int)+(k:Int))=4+(k:Int):=by rw [IntKind.wrap_i64];omega
     have i3:IntKind.i64.wrap (p:Int)=(p:Int):=by rw [IntKind.wrap_i64];omega
     have i4:(p:Int) < 9:=by omega
     have i5:(j:Int) < 5:=by omega
     generalize rnd f p=y at *
     generalize e j=x at *
     generalize (C+col e f k j) / 18446744073709551616=th at *
     generalize (C+col e f k j) % 18446744073709551616=tl at *
     obtain ⟨uh,hu1⟩:∃ u,(C+col e f k (j+1)) / 18446744073709551616=u:=⟨_,rfl⟩
     obtain ⟨ul,hu2⟩:∃ u,(C+col e f k (j+1)) % 18446744073709551616=u:=⟨_,rfl⟩
     have hU1:=hide hu1
     have hU2:=hide hu2
     rw [hu1,hu2] at AP' FIN'
     clear hu1 hu2
     clear hT hB hM AP FIN KC colb cj cj' cs rb hp f0 f1 f2 f3 f4 cb ck U5
     go_wp2
     go_region_with (go_at_call 120;refine ((unhide AP') _ ?_).mono ?_;exact ⟨1,rfl⟩;rintro r w' ⟨rfl,n'⟩;obtain ⟨⟨t0',t1'⟩,g0',g1'⟩:=(unhide KC') w' n')
     all_goals
      have F:=hide ((unhide FIN') w' n')
      generalize (w'.setCell ⟨G,0,none⟩ (.int .u64 uh)).setCell ⟨G,1,none⟩ (.int .u64 ul)=wz at *
      clear i1 i2 i3 t0 t1 t0' t1' g0 g1 g0' g1'
      go_wp2
      go_roundw
      case rel =>
       obtain ⟨F1,F2,F3,F4⟩:=F.out
       exact ⟨j+1,by omega,by go_num,F1,F2,by rw [hU1.out,hU2.out];exact F3,F4⟩
      case measure=>simp [intOf];omega
    ·obtain rfl : j = 5 := by omega
     have c5:=colb 5 (by omega)
     have hU:=U5.out
     have R:=hU.step hlt
     have E1:lf 0 (cols e f) k=(C+col e f k 5) % 2251799813685248:=by
      unfold lf
      rw [hC'.out,show cols e f k=col e f k 5 by simp [cols,hlt]]
     have E2:cr 0 (cols e f) (k+1)=(C+col e f k 5) / 2251799813685248:=by
      rw [cr,hC'.out,show cols e f k=col e f k 5 by simp [cols,hlt]]
     have hcy:=hB.cell (i:=k) (by rw [hU.1];exact hlt)
     have hfy:=hB.free k
     have t0:wr.cell? ⟨G,0,none⟩=some (.int .u64 ((C+col e f k 5) / 18446744073709551616)):=hT.cell (i:=0) (by simp)
     have t1:wr.cell? ⟨G,1,none⟩=some (.int .u64 ((C+col e f k 5) % 18446744073709551616)):=hT.cell (i:=1) (by simp)
     have v1:(C+col e f k 5) % 18446744073709551616 % 2251799813685248=(C+col e f k 5) % 2251799813685248:=by omega
     have v2:(C+col e f k 5) % 18446744073709551616 / 2251799813685248+(C+col e f k 5) / 18446744073709551616*8192=(C+col e f k 5) / 2251799813685248:=by omega
     have b1:0≤(C+col e f k 5) / 18446744073709551616∧(C+col e f k 5) / 18446744073709551616 < 2251799813685248:=⟨by omega,by omega⟩
     have b2:0≤(C+col e f k 5) % 18446744073709551616∧(C+col e f k 5) % 18446744073709551616 < 18446744073709551616:=⟨by omega,by omega⟩
     rw [E1,← v1] at R
     rw [← v2] at E2
     have E2':=hide E2
     generalize (C+col e f k 5) / 18446744073709551616=th at *
     generalize (C+col e f k 5) % 18446744073709551616=tl at *
     have m1:=mask51 tl b2.1 b2.2
     have o1:bits BinOp.or IntKind.u64 (th*8192) (tl / 2251799813685248)=tl / 2251799813685248+th*8192:=or64c (tl / 2251799813685248) th 13 8192 (by decide) (by omega) (by omega) (by omega) (by omega) (by decide)
     have S:=hB.store k (tl % 2251799813685248)
     have SM:=hM.set (g:=w.heap.size+1+1+1+1) (i:=k) (by omega) (.int .u64 (tl % 2251799813685248))
     have SG:w.heap.size+1+1+1+1 < (wr.setCell ⟨w.heap.size+1+1+1+1,k,none⟩ (.int .u64 (tl % 2251799813685248))).heap.size:=by simp [World.setCell];omega
     have GN:G≠w.heap.size+1+1+1+1:=by omega
     have R':=hide R
     clear hU hB hM hT U5 E1 E2 v1 v2 colb c5 ck cb hC' R f0 f1 f2 f3 f4
     go_wp2
     go_roundw
     case rel=>exact ⟨k+1,_,by omega,by go_num,by rw [E2'.out],R'.out,SM,S,SG⟩
     case measure=>simp [intOf];omega
  ·obtain rfl : k = 5 := by omega
   have hy:=hU.all
   subst hy
   have A:=mul_ok he hf
   have l0:=lf_bd 0 (cols e f) 0
   have c5:=cb 5
   obtain ⟨⟨q0,q1,q2,q3,q4⟩,z0,_⟩:=hB.f5
   have SM:=hM.set (g:=w.heap.size+1+1+1+1) (i:=0) (by omega) (.int .u64 (lf 0 (cols e f) 0+19*cr 0 (cols e f) 5))
   clear hU hB hM cb f0 f1 f2 f3 f4
   go_wp2_with fail
   generalize wr.setCell ⟨w.heap.size+1+1+1+1,0,none⟩ (.int .u64 (lf 0 (cols e f) 0+19*cr 0 (cols e f) 5))=wy at *
   refine (settle_any wy (st1 (cols e f)) A.1).mono ?_
   rintro r w1 ⟨rfl,n1⟩
   obtain ⟨⟨p0,p1,p2,p3,p4⟩,⟨g0,g1,g2,g3,g4⟩⟩:=(SM.R.up n1).f5
   have N1:=nxt SM.B n1
   obtain ⟨t,ht⟩:∃ t,t=stl (st1 (cols e f)):=⟨_,rfl⟩
   have hT:Hid (t=stl (st1 (cols e f))):=ht
   rw [← ht]
   clear SM A n1 q0 q1 q2 q3 q4 ht
   simp only [ag5]
   go_wp2
   exact bodyPost_ret (v:=ag5 t) (by simp [ag5,results,Tryz.results104,go_sem,p0,p1,p2,p3,p4]) rfl ⟨by rw [hT.out];rfl,below_set5 N1 (by omega) _ _ _ _ _⟩
end Go.Proofs.YtnpolopcgmjmnaaGreatDoor
namespace Go.Proofs.YtnpolopcgmjmnaaGreatDoor
set_option maxRecDepth 100000
open Go.RowKit
theorem mulE_any (w:World) (e f:Nat→Int) (he:Lm e) (hf:Lm f) :
  Calls Tryz.prog 104 #[ag5 e,ag5 f] w fun r w'=>∃ t,r = .returned (ag5 t)∧Lm t∧sv t 5=(sv e 5*sv f 5) % PP∧Below w.heap.size w w':=by
 refine (mul_any w e f he hf).mono ?_
 rintro r w' ⟨rfl,n⟩
 obtain ⟨_,h2,h3⟩:=mul_ok he hf
 exact ⟨_,rfl,h3,h2,n⟩
end Go.Proofs.YtnpolopcgmjmnaaGreatDoor
